/-
  Regions that draw their order, whose operations only read and whose callees may make memory: one walk of the text's order serves them all, in the class of the worlds that agree with the region's first one below its size.
-/
import Derived.Test.YtbplchpbaonadaaDoorOwn
import Derived.RegionTactic
import Derived.BigRegion
import Derived.ChangeAlike
import Derived.Deep.QuietTactic
import Derived.BigQuiet
import Derived.Test.YtbplchpbaonadaaDoorR1
import Derived.Test.YtbplchpbaonadaaDoorR1
import Derived.Test.YtbplchpbaonadaaDoorMl
import Derived.Test.YtbplchpbaonadaaDoorMn
import Derived.Test.YtbplchpbaonadaaDoorR1
import Derived.Test.YtbplchpbaonadaaDoorOf
import Derived.Test.YtbplchpbaonadaaDoorSg
namespace Go.Proofs.YtbplchpbaonadaaDoor
open Go.RowKit Go
set_option linter.unusedVariables false
/-- A world that agrees with W in all that W has. -/
structure Up (W : World) where
  w : World
  b : Below W.heap.size W w
instance Up.has (W : World) : Nonempty (Up W) := ⟨⟨W, Below.refl _ _⟩⟩
theorem Up.cell {W : World} {g j : Nat} {v : Value} (h : W.cell? ⟨g, j, none⟩ = some v) (x : Up W) : x.w.cell? ⟨g, j, none⟩ = some v := by
  have hlt := World.block_lt_of_cell? W _ h
  rw [x.b.cell (p := ⟨g, j, none⟩) hlt]
  exact h
theorem Up.free {W : World} {g j : Nat} {b : Bool} (h : W.frozen? ⟨g, j, none⟩ = b) (hg : g < W.heap.size) (x : Up W) : x.w.frozen? ⟨g, j, none⟩ = b := by
  rw [x.b.frozen (p := ⟨g, j, none⟩) hg]
  exact h
theorem Up.heap {W : World} {g : Nat} {o : Obj} (h : W.heap[g]? = some o) (x : Up W) : x.w.heap[g]? = some o := by
  rw [x.b.block g (Array.getElem?_eq_some_iff.1 h).1]
  exact h
theorem Up.calls {P : Program} {f : FuncId} {args : Array Value} {W : World} {x : Up W} {v : Value} (h : Calls P f args x.w fun e w' => e = .returned v ∧ Below x.w.heap.size x.w w') :
    Calls P f args x.w fun e w'' => e = .returned v ∧ ∃ y : Up W, w'' = y.w :=
  h.mono fun _ w' ⟨he, hb⟩ => ⟨he, ⟨w', x.b.trans (hb.mono x.b.size)⟩, rfl⟩
theorem Up.same {P : Program} {f : FuncId} {args : Array Value} {W : World} {x : Up W} {v : Value} (h : Calls P f args x.w fun e w' => e = .returned v ∧ x.w = w') :
    Calls P f args x.w fun e w'' => e = .returned v ∧ ∃ y : Up W, w'' = y.w :=
  h.mono fun _ w' ⟨he, hw⟩ => ⟨he, x, hw.symm⟩
theorem wp_region_up {P : Program} {id : Nat} {Q : Exit → Act → World → Prop} {a : Act} {w : World} {l : List Oper} (hm : P.follows .mixedOrders = true) (hB : Region.lexB .any l.toArray = true)
    (h : wpQuiet P l.toArray (fun w' => ∃ x : Up w, w' = x.w) (fun a' => ∀ w', (∃ x : Up w, w' = x.w) → Q .normal a' w') l a) : (Code.region id l.toArray true).wp P Q a w :=
  wp_region_quiet (C := fun w' => ∃ x : Up w, w' = x.w) hm hB ⟨⟨{ w with drawn := w.drawn + 1 }, ⟨rfl, rfl, rfl, Nat.le_refl _, fun _ _ => rfl⟩⟩, rfl⟩ (by simpa using h)
/-- The world at hand under a name of its own. -/
theorem wp_named {c : Code} {P : Program} {Q : Exit → Act → World → Prop} {a : Act} {w : World} (h : ∀ W, w = W → c.wp P Q a W) : c.wp P Q a w := h w rfl
theorem heap_named {w W : World} {g : Nat} {o : Obj} (h : w = W) (hk : w.heap[g]? = some o) : W.heap[g]? = some o := h ▸ hk
theorem below_named {B : Nat} {v w W : World} (h : w = W) (hk : Below B v w) : Below B v W := h ▸ hk
end Go.Proofs.YtbplchpbaonadaaDoor
namespace Go.Proofs.YtbplchpbaonadaaDoor
open Go.RowKit Go
set_option linter.unusedVariables false
set_option linter.unusedSimpArgs false
set_option maxRecDepth 100000
set_option exponentiation.threshold 10000
theorem equal_any (A1 A2 : Option Addr) (n1 n2 c1 c2 : Nat) (xs ys : List UInt8) (w : World) (h1 : RB w A1 n1 xs) (h2 : RB w A2 n2 ys) :
    Calls Tryd.prog 28 #[.slice A1 n1 c1, .slice A2 n2 c2] w fun e w' => e = .returned (.bool (xs == ys)) ∧ w = w' := by
  obtain ⟨rfl, h1⟩ := h1
  obtain ⟨rfl, h2⟩ := h2
  have e1 := run_strOf w _ A1 xs c1 h1
  have e2 := run_strOf w _ A2 ys c2 h2
  have t1 := strOf_toList xs
  have t2 := strOf_toList ys
  go_enter Tryd.func28, Tryd.ntmps28
  go_wp2
  go_ret
  exact ⟨rfl, rfl⟩
theorem dsame_any (A1 A2 : Option Addr) (n1 n2 c1 c2 : Nat) (xs ys : List UInt8) (w : World) (h1 : RB w A1 n1 xs) (h2 : RB w A2 n2 ys) :
    Calls Tryd.prog 33 #[.slice A1 n1 c1, .slice A2 n2 c2] w fun e w' => e = .returned (.bool (xs == ys)) ∧ w = w' := by
  obtain ⟨rfl, h1⟩ := h1
  obtain ⟨rfl, h2⟩ := h2
  have e1 := run_strOf w _ A1 xs c1 h1
  have e2 := run_strOf w _ A2 ys c2 h2
  have t1 := strOf_toList xs
  have t2 := strOf_toList ys
  go_enter Tryd.func33, Tryd.ntmps33
  go_wp2
  go_ret
  exact ⟨rfl, rfl⟩
/-- Whether a signature is right, by mathematics. -/
def verB (N : List UInt8) (e : Nat) (d sig : List UInt8) : Bool :=
  soundB N e && decide (sig.length = N.length) && decide (beV sig < beV N) && (beN (beV sig ^ e % beV N) N.length == encL d N.length)
theorem beV_cons (x : UInt8) (l : List UInt8) : beV (x :: l) = x.toNat * 256 ^ l.length + beV l := by
  simp [beV]
theorem beV_last (l : List UInt8) (h : 0 < l.length) : beV l % 2 = (l.getD (l.length - 1) 0).toNat % 2 := by
  obtain ⟨m, q, rfl⟩ : ∃ m q, l = m ++ [q] := ⟨l.dropLast, l.getLast (by intro e; rw [e] at h; simp at h), (List.dropLast_concat_getLast _).symm⟩
  rw [beV_append]
  have e1 : (m ++ [q]).getD ((m ++ [q]).length - 1) 0 = q := by simp [List.getD]
  have e2 : beV [q] = q.toNat := by simp [beV]
  rw [e1, e2]
  simp only [List.length_cons, List.length_nil]
  omega
structure SoundK (N : List UInt8) (e : Nat) : Prop where
  l1 : 256 ≤ N.length
  l2 : N.length ≤ 512
  may : mayB (num (beV N)) = true
  e1 : 3 ≤ e
  e2 : e < 8589934592
theorem sound_is {N : List UInt8} {e : Nat} (h : soundB N e = true) : SoundK N e := by
  unfold soundB at h
  simp only [Bool.and_eq_true, Bool.or_eq_true, decide_eq_true_eq] at h
  obtain ⟨⟨⟨⟨⟨hl, h0⟩, ho⟩, he1⟩, he2⟩, he3⟩ := h
  have hlen : 256 ≤ N.length ∧ N.length ≤ 512 := by omega
  have hlt : beV N < 4294967296 ^ 128 := Nat.lt_of_lt_of_le (beV_lt N) (by rw [show (4294967296 : Nat) ^ 128 = 256 ^ 512 by decide +kernel]; exact Nat.pow_le_pow_right (by decide) hlen.2)
  have hodd := beV_last N (by omega)
  have hbig : 3 ≤ beV N := by
    cases N with
    | nil => simp at hlen
    | cons x t =>
      rw [beV_cons]
      have h1 : 128 ≤ x.toNat := h0
      have h2 : 1 ≤ 256 ^ t.length := Nat.pow_pos (by decide)
      have h3 := Nat.mul_le_mul h1 h2
      omega
  refine ⟨hlen.1, hlen.2, may_of ?_ ?_ ?_ ?_ ?_, he2, he3⟩
  · rw [num_right]
    exact decide_eq_true (Nat.lt_of_lt_of_le hlt (Nat.pow_le_pow_right (by decide) (by decide)))
  · rw [num_pos _ (by omega)]; simp
  · rw [num_len]; exact hlt
  · rw [num_pos _ (by omega)]
    show beV N % 4294967296 % 2 = 1
    omega
  · rw [val_num]; exact hbig
theorem num_right_of {v : Nat} {l : List UInt8} (h : v < 256 ^ l.length) (hl : l.length ≤ 512) : rightB (num v) = true := by
  rw [num_right]
  refine decide_eq_true (Nat.lt_of_lt_of_le h ?_)
  refine Nat.le_trans (Nat.pow_le_pow_right (by decide) hl) ?_
  rw [show (256 : Nat) ^ 512 = 4294967296 ^ 128 by decide +kernel]
  exact Nat.pow_le_pow_right (by decide) (by decide)
theorem bits_oct {v k : Nat} (h : v < 256 ^ k) : bitsN v ≤ 8 * k := by
  rw [bits_le]
  rwa [show (2 : Nat) ^ (8 * k) = 256 ^ k by rw [Nat.pow_mul]]
theorem e_right {e : Nat} (h : e < 8589934592) : rightB (num e) = true := by
  rw [num_right]
  refine decide_eq_true (Nat.lt_of_lt_of_le h ?_)
  exact Nat.le_trans (show 8589934592 ≤ 4294967296 ^ 2 by decide) (Nat.pow_le_pow_right (by decide) (by decide))
/-- A digest's value. -/
structure IsDg (cs : Array Value) (d : List UInt8) : Prop where
  v : cs.toList = d.map bv
  l : d.length = 32
theorem IsDg.info {cs : Array Value} {d : List UInt8} (h : IsDg cs d) : (Tryd.prog.info? 22).map (·.size) = some cs.size := by
  have : cs.size = 32 := by rw [← Array.length_toList, h.v, List.length_map, h.l]
  rw [this]
  exact (show (Tryd.prog.info? 22).map (·.size) = some 32 from by kernel_rfl)
set_option maxHeartbeats 4000000 in
theorem verify_any (A : Option Addr) (n c e : Nat) (N : List UInt8) (cs : Array Value) (d : List UInt8) (B : Option Addr) (m k : Nat) (sig : List UInt8) (w : World) (hL : Lens w) (hA : RB w A n N) (hn : n ≤ 1000000) (he : e < 18446744073709551616) (hd : IsDg cs d) (hB : RB w B m sig) (hm : m ≤ 1000000) :
    Calls Tryd.prog 16 #[.agg #[.slice A n c, .int .u64 (e : Int)], .agg cs, .slice B m k] w fun r w' => r = .returned (.bool (verB N e d sig)) ∧ Below w.heap.size w w' := by
  have SD := Lib.hid (fun W (hb : Below w.heap.size w W) => sound_any A n c e N W (hA.below hb) (hL.below' hb) (by omega) he)
  have HA := Lib.hid hA
  have HB := Lib.hid hB
  have HD := Lib.hid hd
  have HI := Lib.hid hd.info
  have hnl : n = N.length := hA.1.symm
  have hml : m = sig.length := hB.1.symm
  have VB : Hid (verB N e d sig = (soundB N e && decide (sig.length = N.length) && decide (beV sig < beV N) && (beN (beV sig ^ e % beV N) N.length == encL d N.length))) := rfl
  unfold soundZ at SD
  cases hs : soundB N e with
  | false =>
    have HV : Hid (verB N e d sig = false) := by
      show verB N e d sig = false
      rw [VB.out, hs]; rfl
    rw [hs] at SD
    clear VB hs hL hA hd hB hnl hml
    go_enter Tryd.func16, Tryd.ntmps16
    go_wp2_with fail
    refine calls_nm fun W hW => ?_
    have hbW : Below w.heap.size w W := by rw [← hW]; exact kp_alloc (kp_alloc (Below.refl _ _) _) _
    clear hW
    refine (SD.out _ hbW).mono ?_
    rintro r w1 ⟨rfl, hb1⟩
    have HF := Lib.hid (kp_call hbW hb1)
    clear hb1 hbW
    go_wp2
    go_ret
    exact ⟨by rw [HV.out]; rfl, HF.out⟩
  | true =>
    rw [hs] at SD
    obtain ⟨l1, l2, hmay, e1, e2⟩ := sound_is hs
    by_cases hlen : m = n
    rotate_left
    · have HV : Hid (verB N e d sig = false) := by
        show verB N e d sig = false
        rw [VB.out, decide_eq_false (show ¬ sig.length = N.length by omega), hs]; rfl
      have q1 : ((m : Int) != (n : Int)) = true := by simp; omega
      have q2 : ¬ m = n := hlen
      clear VB hs hL hA hd hB hnl hml hmay
      go_enter Tryd.func16, Tryd.ntmps16
      go_wp2_with fail
      refine calls_nm fun W hW => ?_
      have hbW : Below w.heap.size w W := by rw [← hW]; exact kp_alloc (kp_alloc (Below.refl _ _) _) _
      have hk : W.heap[w.heap.size]? = some (.cells #[.slice A n c, .int .u64 (e : Int)] 26) := by rw [← hW]; exact has_alloc (has_new _ _) _
      clear hW
      refine (SD.out _ hbW).mono ?_
      rintro r w1 ⟨rfl, hb1⟩
      obtain ⟨c0, c1⟩ := cells_2 (has_below hk hb1)
      have HF := Lib.hid (kp_call hbW hb1)
      clear hb1 hbW hk
      go_wp2
      go_ret
      exact ⟨by rw [HV.out]; rfl, HF.out⟩
    · subst hlen
      have q1 : ((m : Int) != (m : Int)) = false := by simp
      have OFN := Lib.hid (fun W (hb : Below w.heap.size w W) => of_any A m c N W (hA.below hb) (by omega))
      have OFS := Lib.hid (fun W (hb : Below w.heap.size w W) => of_any B m k sig W (hB.below hb) (by omega))
      rw [show ofQ N = (num (beV N), 0) by unfold ofQ; rw [if_pos (by omega)]] at OFN
      rw [show ofQ sig = (num (beV sig), 0) by unfold ofQ; rw [if_pos (by omega)]] at OFS
      have HMAY := Lib.hid hmay
      have EX := Lib.hid (fun W => exponent_any e (by omega) (by omega) W)
      have hsr : rightB (num (beV sig)) = true := num_right_of (beV_lt sig) (by omega)
      have her := e_right e2
      have hVB := VB.out
      rw [hs, decide_eq_true (show sig.length = N.length by omega)] at hVB
      have hNL := beV_lt N
      have HE := Lib.hid (encode_of repeat_ok m (by omega) (by omega) cs d)
      have hmN : N.length = m := by omega
      rw [hmN] at hVB hNL
      obtain ⟨nv, hnv⟩ : ∃ nv, beV N = nv := ⟨_, rfl⟩
      obtain ⟨sv, hsv⟩ : ∃ sv, beV sig = sv := ⟨_, rfl⟩
      rw [hnv] at OFN HMAY hVB hNL
      rw [hsv] at OFS hsr hVB
      have HVB := Lib.hid hVB
      have HSR := Lib.hid hsr
      have HER := Lib.hid her
      have HNL := Lib.hid hNL
      have hm5 : m ≤ 512 := by omega
      clear VB hs hL hA hd hB hnl hml hmay hsr her hVB hNL hnv hsv l1 e1 e2 hmN l2
      go_enter Tryd.func16, Tryd.ntmps16
      go_wp2_with fail
      refine calls_nm fun W hW => ?_
      have hbW : Below w.heap.size w W := by rw [← hW]; exact kp_alloc (kp_alloc (Below.refl _ _) _) _
      have hk : W.heap[w.heap.size]? = some (.cells #[.slice A m c, .int .u64 (e : Int)] 26) := by rw [← hW]; exact has_alloc (has_new _ _) _
      have hg : W.heap[w.heap.size + 1]? = some (.cells cs 22) := by rw [← hW]; exact has_new' _ _ _ (by simp)
      clear hW
      refine (SD.out _ hbW).mono ?_
      rintro r w1 ⟨rfl, hb1⟩
      have K1 := Lib.hid (has_below hk hb1)
      have G1 := Lib.hid (has_below hg hb1)
      have B1 := Lib.hid (kp_call hbW hb1)
      obtain ⟨c0, c1⟩ := cells_2 K1.out
      clear hb1 hbW hk hg SD
      go_wp2_with fail
      refine (OFN.out _ B1.out).mono ?_
      rintro r w2 ⟨A2, n2, c2, rfl, hs2, h1, h2, h3, hb2⟩
      have K2 := Lib.hid (has_below K1.out hb2)
      have G2 := Lib.hid (has_below G1.out hb2)
      have B2 := Lib.hid (kp_call B1.out hb2)
      have RN := Lib.hid hs2.ru
      obtain ⟨d0, d1⟩ := cells_2 K2.out
      clear hb2 hs2 c0 c1 K1 G1 B1 OFN
      go_wp2_with fail
      refine (OFS.out _ B2.out).mono ?_
      rintro r w3 ⟨A3, n3, c3, rfl, hs3, h4, h5, h6, hb3⟩
      have K3 := Lib.hid (has_below K2.out hb3)
      have G3 := Lib.hid (has_below G2.out hb3)
      have B3 := Lib.hid (kp_call B2.out hb3)
      have RN3 := Lib.hid (RN.out.below hb3)
      have RS := Lib.hid hs3.ru
      obtain ⟨x0, x1⟩ := cells_2 K3.out
      clear hb3 hs3 d0 d1 K2 G2 B2 RN OFS
      go_wp2_with fail
      refine (new_yes A2 n2 c2 (num nv) w3 RN3.out HMAY.out).mono ?_
      rintro r w4 ⟨g, rfl, hgl, hM, hb4⟩
      rw [val_num] at hM
      have K4 := Lib.hid (has_below K3.out hb4)
      have G4 := Lib.hid (has_below G3.out hb4)
      have B4 := Lib.hid (kp_call B3.out hb4)
      have RS4 := Lib.hid (RS.out.below hb4)
      have M4 := Lib.hid hM
      obtain ⟨y0, y1⟩ := cells_2 K4.out
      clear hb4 hM x0 x1 K3 G3 B3 RN3 RS hgl
      go_wp2_with fail
      refine (EX.out _).mono ?_
      rintro r w5 ⟨n5, rfl, h7, hr5, hb5⟩
      have K5 := Lib.hid (has_below K4.out hb5)
      have G5 := Lib.hid (has_below G4.out hb5)
      have B5 := Lib.hid (kp_call B4.out hb5)
      have ME := Lib.hid (mexp_all g nv A3 _ n3 c3 n5 n5 (num sv) (num e) w5 (M4.out.below hb5) (RS4.out.below hb5) hr5 (by omega) (by omega))
      obtain ⟨z0, z1⟩ := cells_2 K5.out
      clear hb5 hr5 y0 y1 K4 G4 B4 RS4 M4 EX
      by_cases hlt : sv < nv
      rotate_left
      · have HV : Hid (verB N e d sig = false) := by
          show verB N e d sig = false
          rw [HVB.out, decide_eq_false hlt]; rfl
        have hq : mexpQ (num sv) (num e) nv = ([], 1) := by
          unfold mexpQ underB
          rw [val_num, decide_eq_false hlt, Bool.and_false, Bool.false_and, if_neg (by decide)]
        rw [hq] at ME
        clear hq hlt HVB
        go_wp2_with fail
        refine ME.out.mono ?_
        rintro r w6 ⟨A6, n6, c6, rfl, hs6, h8, h9, h10, hb6⟩
        have HF := Lib.hid (kp_call B5.out hb6)
        clear hb6 hs6 ME
        go_wp2
        go_ret
        exact ⟨by rw [HV.out]; rfl, HF.out⟩
      · have hq : mexpQ (num sv) (num e) nv = (num (sv ^ e % nv), 0) := by
          unfold mexpQ underB
          rw [val_num, val_num, decide_eq_true hlt, HSR.out, HER.out]
          rfl
        rw [hq] at ME
        have hVB := HVB.out
        rw [decide_eq_true hlt] at hVB
        obtain ⟨pv, hpv⟩ : ∃ pv, sv ^ e % nv = pv := ⟨_, rfl⟩
        have hpl : pv < 256 ^ m := by rw [← hpv]; exact Nat.lt_trans (Nat.mod_lt _ (by omega)) HNL.out
        rw [hpv] at ME hVB
        have HV2 := Lib.hid hVB
        have HPL := Lib.hid hpl
        clear hq hlt HVB hVB hpv hpl
        go_wp2_with fail
        refine ME.out.mono ?_
        rintro r w6 ⟨A6, n6, c6, rfl, hs6, h8, h9, h10, hb6⟩
        have K6 := Lib.hid (has_below K5.out hb6)
        have G6 := Lib.hid (has_below G5.out hb6)
        have B6 := Lib.hid (kp_call B5.out hb6)
        have RP := Lib.hid hs6.ru
        obtain ⟨u0, u1⟩ := cells_2 K6.out
        have OC := oct_good A6 n6 c6 m (num pv) w6 hs6.ru (by omega) (by rw [num_right]; exact decide_eq_true (Nat.lt_of_lt_of_le HPL.out (Nat.le_trans (Nat.pow_le_pow_right (by decide) hm5) (by rw [show (256 : Nat) ^ 512 = 4294967296 ^ 128 by decide +kernel]; exact Nat.pow_le_pow_right (by decide) (by decide))))) (by omega)
        rw [val_num, if_pos (bits_oct HPL.out)] at OC
        have OC := Lib.hid OC
        clear hb6 hs6 z0 z1 K5 G5 B5 ME
        go_wp2_with fail
        refine OC.out.mono ?_
        rintro r w7 ⟨A7, n7, c7, rfl, ho7, h11, h12, hb7⟩
        have K7 := Lib.hid (has_below K6.out hb7)
        have G7 := Lib.hid (has_below G6.out hb7)
        have B7 := Lib.hid (kp_call B6.out hb7)
        have RG := Lib.hid ho7.rb
        obtain ⟨v0, v1⟩ := cells_2 K7.out
        clear hb7 ho7 u0 u1 K6 G6 B6 OC
        go_wp2_with (refine wpList_load_row rfl _ _ rfl (w.heap.size + 1) rfl _ _ _ _ G7.out Tryd.underlying22 rfl HI.out ?_)
        refine (HE.out w7 HD.out.l HD.out.v).mono ?_
        rintro r w8 ⟨A8, c8, rfl, ho8, hb8⟩
        have B8 := Lib.hid (kp_call B7.out hb8)
        have RG8 := Lib.hid (RG.out.below hb8)
        have RW := Lib.hid ho8.rb
        clear hb8 ho8 v0 v1 K7 G7 B7 HE RG
        go_wp2_with fail
        refine (equal_any _ _ _ _ _ _ _ _ _ RG8.out RW.out).mono ?_
        rintro r w9 ⟨rfl, rfl⟩
        go_wp2
        go_ret
        exact ⟨by rw [HV2.out]; simp, B8.out⟩
end Go.Proofs.YtbplchpbaonadaaDoor
namespace Go.Proofs.YtbplchpbaonadaaDoor
open Go.RowKit Go
set_option linter.unusedVariables false
set_option linter.unusedSimpArgs false
set_option maxRecDepth 100000
theorem pw_sum (s a b m : Nat) : s ^ (a + b) % m = (s ^ a % m) * (s ^ b % m) % m := by rw [Nat.pow_add, Nat.mul_mod]
theorem pw_prod (s t a m : Nat) : (s * t % m) ^ a % m = (s ^ a % m) * (t ^ a % m) % m := by rw [← Nat.pow_mod, Nat.mul_pow, Nat.mul_mod]
theorem pw_pow (s a b m : Nat) : (s ^ a % m) ^ b % m = s ^ (a * b) % m := by rw [← Nat.pow_mod, ← Nat.pow_mul]
theorem exp_num {s e m : Nat} (hs : s < m) (hm : m < 4294967296 ^ 256) (he : e ≤ 18446744073709551616) : mexpQ (num s) (num e) m = (num (s ^ e % m), 0) := by
  unfold mexpQ
  rw [under_num hs hm, num_rightB (small_big he), val_num, val_num]
  rfl
theorem mul_num {s t m : Nat} (hs : s < m) (ht : t < m) (hm : m < 4294967296 ^ 256) : mmulQ (num s) (num t) m = (num (s * t % m), 0) := by
  unfold mmulQ
  rw [under_num hs hm, under_num ht hm, val_num, val_num]
  rfl
theorem mod_big {m : Nat} (h : IsMod m) : m < 4294967296 ^ 256 := Nat.lt_of_lt_of_le (lt_limbs m) (Nat.pow_le_pow_right (by decide) (by have := h.len; omega))
/-- Exp of numbers. -/
theorem exp_n (g m : Nat) (A B : Option Addr) (n c k d s e : Nat) (w : World) (hM : MD w g m) (hA : RU w A n (num s)) (hB : RU w B k (num e)) (hn : n ≤ 1000) (hk : k ≤ 1000) (hs : s < m) (he : e ≤ 18446744073709551616) :
    Calls Tryd.prog 25 #[.pointer (some ⟨g, 0, none⟩), .slice A n c, .slice B k d] w (NumR w (num (s ^ e % m), 0)) := by
  have h := mexp_all g m A B n c k d (num s) (num e) w hM hA hB hn hk
  rw [exp_num hs (mod_big hM.is) he] at h
  exact h
end Go.Proofs.YtbplchpbaonadaaDoor
namespace Go.Proofs.YtbplchpbaonadaaDoor
open Go.RowKit Go
set_option linter.unusedVariables false
set_option linter.unusedSimpArgs false
set_option maxRecDepth 100000
theorem RestD.move {w w0 : World} {r : List Nat × Nat} {e : Ending} {w' : World} (h : RestD w r e w') (hb : Below w0.heap.size w0 w) : RestD w0 r e w' := by
  obtain ⟨A, n, c, h1, h2, h3, h4, h5, h6⟩ := h
  exact ⟨A, n, c, h1, h2, h3, h4, h5, kp_call hb h6⟩
set_option maxHeartbeats 16000000 in
theorem dExpm_any (A B C : Option Addr) (n c k d p q : Nat) (x ex ms : List Nat) (w : World) (hA : RU w A n x) (hB : RU w B k ex) (hC : RU w C p ms) (hn : n ≤ 300) (hk : k ≤ 300) (hc : n ≤ c ∧ c ≤ 9223372036854775807) (hq : p ≤ q ∧ q ≤ 9223372036854775807) (hmay : mayB ms = true) :
    Calls Tryd.prog 30 #[.slice A n c, .slice B k d, .slice C p q] w (RestD w (mexpQ x ex (val ms))) := by
  obtain ⟨hr, h0, h128, hodd, h3, hnum, hmod, hlim, hlow⟩ := may_is hC.lim hmay
  have hl := hC.len
  rw [hl] at h0 h128
  have BX := Lib.hid (dbelow_any A C n c p q x ms w hA hC hn (by omega) hc hq hr (by have := hmod.len; omega))
  have RE := Lib.hid (fun W (h : Below w.heap.size w W) => dright_any B k d ex W (hB.below h) (by omega))
  have herr : ∀ w', Below w.heap.size w w' → (underB x (val ms) && rightB ex) = false → RestD w (mexpQ x ex (val ms)) (.returned (.tuple #[.slice none 0 0, .int .i64 1])) w' := fun w' hb h => by
    unfold mexpQ
    rw [h]
    exact ⟨none, 0, 0, rfl, RU.nil _, Nat.le_refl _, by decide, by decide, hb⟩
  cases hx : underB x (val ms) with
  | false =>
    have HE := Lib.hid (fun w' hb => herr w' hb (by rw [hx]; rfl))
    have BX := BX.out
    rw [hx] at BX
    have BX := Lib.hid BX
    clear hA hB hC hx herr RE hr hodd hnum hmod hlim hlow hmay h3
    go_enter Tryd.func30, Tryd.ntmps30
    go_wp2_with fail
    refine BX.out.mono ?_
    rintro e w1 ⟨rfl, hb⟩
    have HB := Lib.hid hb
    clear hb BX
    go_wp2
    go_ret2
    exact HE.out _ HB.out
  | true =>
    have BX := BX.out
    rw [hx] at BX
    have BX := Lib.hid BX
    cases hre : rightB ex with
    | false =>
      have HE := Lib.hid (fun w' hb => herr w' hb (by rw [hx, hre]; rfl))
      have RE := RE.out
      rw [hre] at RE
      have RE := Lib.hid RE
      clear hA hB hC hx hre herr hr hodd hnum hmod hlim hlow hmay h3
      go_enter Tryd.func30, Tryd.ntmps30
      go_wp2_with fail
      refine BX.out.mono ?_
      rintro e w1 ⟨rfl, hb⟩
      have HB := Lib.hid hb
      clear hb BX
      go_wp2_with fail
      refine (RE.out _ HB.out).mono ?_
      rintro e w2 ⟨rfl, rfl⟩
      clear RE
      go_wp2
      go_ret2
      exact HE.out _ HB.out
    | true =>
      have RE := RE.out
      rw [hre] at RE
      have RE := Lib.hid RE
      obtain ⟨x1, x2, x3, x4⟩ := under_len hA hx
      have hq9 : mexpQ x ex (val ms) = (num (val x ^ val ex % val ms), 0) := by unfold mexpQ; rw [hx, hre]; rfl
      rw [hq9]
      obtain ⟨m, hmv⟩ : ∃ m, val ms = m := ⟨_, rfl⟩
      rw [hmv] at h3 hmod x2 ⊢
      have hke : k ≤ 256 := by have := ((rightB_iff ex).1 hre).1; have := hB.len; omega
      have BT := fun W (h : Below w.heap.size w W) => dbits_any B k d ex W (hB.below h) (by omega)
      rw [if_pos hre] at BT
      obtain ⟨K, hK⟩ : ∃ K, bitsN (val ex) = K := ⟨_, rfl⟩
      rw [hK] at BT
      have hK32 : K ≤ 32 * k := by
        rw [← hK, bits_le, ← pow_32]
        have h2 := val_lt ex hB.lim
        rw [hB.len] at h2
        exact h2
      have hK0 : val ex / 2 ^ K = 0 := by
        refine Nat.div_eq_of_lt ?_
        rw [← bits_le, hK]
        exact Nat.le_refl _
      have e1 : IntKind.i64.wrap ((K : Int) - 1) = (K : Int) - 1 := IntWalk.i64_in _ (by omega)
      have hmb := mod_big hmod
      -- a product of a rest below m and a number below m
      have ML := Lib.hid (fun W A1 n1 c1 v1 B1 k1 d1 y (h : Below w.heap.size w W) (r1 : RU W A1 n1 (num v1)) (hv1 : v1 < m) (r2 : RU W B1 k1 y) (hy : rightB y = true) (hv2 : val y < m) (hn1 : n1 ≤ c1 ∧ c1 ≤ 9223372036854775807) (hk1 : k1 ≤ d1 ∧ d1 ≤ 9223372036854775807) (hk3 : k1 ≤ 300) (hn3 : n1 ≤ 300) => (by
        have h9 := dmulm_any A1 B1 C n1 c1 k1 d1 p q (num v1) y ms W r1 r2 (hC.below h) hn3 hk3 (by omega) hn1 hk1 (num_rightB (Nat.lt_trans hv1 hmb)) hy hr h0 (by rw [val_num]; exact under_sq hv1 hv2 hmod.len)
        rw [val_num, hmv] at h9
        exact h9 : Calls Tryd.prog 55 #[.slice A1 n1 c1, .slice B1 k1 d1, .slice C p q] W (BriefPost W 1000 (v1 * val y % m))))
      have HSM : Hid (∀ v (W : World) A1 n1, RU W A1 n1 (num v) → v < m → n1 ≤ 128) := fun v W A1 n1 h hv => by
        have h9 := limbs_le hv
        have := hmod.len
        rw [h.len] at h9
        omega
      have HNR : Hid (∀ v, v < m → rightB (num v) = true) := fun v hv => num_rightB (Nat.lt_trans hv hmb)
      have HA := Lib.hid hA
      have HBE := Lib.hid hB
      have BT := Lib.hid BT
      have HK0 := Lib.hid hK0
      have HX := Lib.hid (And.intro x2 x4)
      have hm0 : 0 < m := by omega
      have hm1 : 1 < m := by omega
      have hN1 : num 1 = [1] := num_small (by decide) (by decide)
      have HN1 := Lib.hid hN1
      clear hA hB hC hx hre herr hr hodd hnum hmod hlim hlow hmay h3 x1 x2 x3 x4 hq9 hmv hmb hK0 hK hN1
      go_enter Tryd.func30, Tryd.ntmps30
      go_wp2_with fail
      refine BX.out.mono ?_
      rintro e w1 ⟨rfl, hb⟩
      have HB := Lib.hid hb
      clear hb BX
      go_wp2_with fail
      refine (RE.out _ HB.out).mono ?_
      rintro e w2 ⟨rfl, rfl⟩
      clear RE
      have K1 : Hid (RU (w1.alloc (.cells #[.int .u32 1] 59)) (some ⟨w1.heap.size, 0, none⟩) 1 (num 1)) := by
        rw [HN1.out]; exact one_ru (has_new _ _) (by decide)
      have B1 := Lib.hid (kp_alloc HB.out (.cells #[.int .u32 1] 59))
      clear HB
      go_wp2_with fail
      refine (BT.out _ B1.out).mono ?_
      rintro e w3 ⟨rfl, rfl⟩
      clear BT
      go_wp2
      go_loopw [8, 9] (fun vr vi wl => ∃ (i v : Nat) (V : Option Addr) (nv cv : Nat), vr = .slice V nv cv ∧ vi = .int .i64 ((i : Int) - 1) ∧ i ≤ K ∧ v < m ∧ nv ≤ cv ∧ cv ≤ 9223372036854775807 ∧ Hid (RU wl V nv (num v) ∧ v = val x ^ (val ex / 2 ^ i) % m ∧ Below w.heap.size w wl)) (fun _ vi _ => (intOf vi + 1).toNat)
      case atStart => exact ⟨K, 1, _, 1, 1, rfl, rfl, Nat.le_refl _, hm1, Nat.le_refl _, by decide, K1.out, by rw [HK0.out, Nat.pow_zero, Nat.mod_eq_of_lt hm1], B1.out⟩
      case round =>
        obtain ⟨i, v, V, nv, cv, rfl, rfl, hi, hvm, hnc, hcc, HK⟩ := hrel
        clear K1 B1
        rcases i with _ | j
        · as_aux_lemma =>
          have j1 : ¬ ((0 : Nat) : Int) - 1 ≥ 0 := by omega
          have HF : Hid (RU wr V nv (num (val x ^ val ex % m)) ∧ nv ≤ 128 ∧ Below w.heap.size w wr) := by
            obtain ⟨f1, f2, f3⟩ := HK.out
            have h9 := HSM.out v wr V nv f1 hvm
            rw [Nat.pow_zero, Nat.div_one] at f2
            rw [f2] at f1
            exact ⟨f1, h9, f3⟩
          clear HK
          go_wp2
          go_ret2
          exact ⟨V, nv, cv, rfl, HF.out.1, hnc, hcc, by have := HF.out.2.1; omega, HF.out.2.2⟩
        · as_aux_lemma =>
          have e4 : (((j + 1 : Nat) : Int) - 1) = (j : Int) := by omega
          rw [e4]
          clear e4
          obtain ⟨f1, f2, f3⟩ := HK.out
          have hnv := HSM.out v wr V nv f1 hvm
          obtain ⟨l, hl9⟩ : ∃ l, j / 32 = l := ⟨_, rfl⟩
          obtain ⟨t, ht⟩ : ∃ t, j % 32 = t := ⟨_, rfl⟩
          have hlk : l < k := by omega
          have hbit := bit_at ex HBE.out.lim j
          rw [hl9, ht] at hbit
          obtain ⟨bx, ox, hBeq, hbx, cx⟩ := HBE.out.at_ (j := l) hlk
          subst hBeq
          have hv32 := HBE.out.lim.getD l
          obtain ⟨u9, hu9⟩ : ∃ u9, ex.getD l 0 = u9 := ⟨_, rfl⟩
          rw [hu9] at cx hbit hv32
          obtain ⟨u, hu⟩ : ∃ u, u9 / 2 ^ t = u := ⟨_, rfl⟩
          rw [hu] at hbit
          have huv : u ≤ u9 := by rw [← hu]; exact Nat.div_le_self _ _
          obtain ⟨b0, hb0⟩ : ∃ b0, u % 2 = b0 := ⟨_, rfl⟩
          rw [hb0] at hbit
          have hand : bits .and .u32 (u : Int) 1 = (b0 : Int) := by
            have h1 := u32_and_nat u 1 (by omega) (by decide)
            rw [Nat.and_one_is_mod, hb0] at h1
            exact h1
          have e6 : (j : Int) / 32 = (l : Int) := by omega
          have e5 : (j : Int).tdiv 32 = (l : Int) := by rw [Int.tdiv_eq_ediv_of_nonneg (by omega)]; omega
          have e7 : (j : Int).tmod 32 = (t : Int) := by rw [Int.tmod_eq_emod_of_nonneg (by omega)]; omega
          have e8 : (j : Int) % 32 = (t : Int) := by omega
          have e9 : IntKind.i64.wrap (l : Int) = (l : Int) := IntWalk.i64_in _ (by omega)
          have e10 : min t 32 = t := by omega
          have e11 : (u9 : Int) / 2 ^ t = (u : Int) := by
            rw [show (u9 : Int) / 2 ^ t = ((u9 / 2 ^ t : Nat) : Int) by push_cast; rfl, hu]
          have e12 : IntKind.i64.wrap ((j : Int) - 1) = (j : Int) - 1 := IntWalk.i64_in _ (by omega)
          have j0 : (j : Int) ≥ 0 := by omega
          have j1 : (0 : Int) ≤ (l : Int) := by omega
          have j2 : (l : Int) < (k : Int) := by omega
          have j3 : (0 : Int) ≤ (t : Int) := by omega
          have hst := bit_step _ _ _ hbit.symm
          have C1 := ML.out wr V nv cv v V nv cv (num v) f3 f1 hvm f1 (HNR.out v hvm) (by rw [val_num]; exact hvm) ⟨hnc, hcc⟩ ⟨hnc, hcc⟩ (by omega) (by omega)
          rw [val_num] at C1
          have hvv : v * v % m = val x ^ (2 * (val ex / 2 ^ (j + 1))) % m := by
            rw [f2, ← Nat.mul_mod, pow_twice]
          obtain ⟨v2, hv2⟩ : ∃ v2, v * v % m = v2 := ⟨_, rfl⟩
          rw [hv2] at C1 hvv
          have hv2m : v2 < m := by rw [← hv2]; exact Nat.mod_lt _ hm0
          have C1 := Lib.hid C1
          have HST := Lib.hid (And.intro hst hvv)
          have F3 := Lib.hid f3
          have CX := Lib.hid (And.intro hbx cx)
          have hb01 : b0 = 0 ∨ b0 = 1 := by omega
          clear hl9 ht hbit hu9 hu hb0 cx hbx f1 f2 f3 hst hvv hv2 HK
          go_wp2_with fail
          refine C1.out.mono ?_
          rintro e w4 ⟨A4, k4, d4, rfl, s4, l4, m4, p4, hb⟩
          have HB4 := Lib.hid (kp_call F3.out hb)
          have S4 := Lib.hid s4
          have cx1 := (HB4.out.cell (p := ⟨bx, ox + l, none⟩) CX.out.1).trans CX.out.2
          have hk4 := HSM.out v2 w4 A4 k4 s4 hv2m
          clear C1 s4 hb F3
          rcases hb01 with rfl | rfl
          · have HN : Hid (RU w4 A4 k4 (num v2) ∧ v2 = val x ^ (val ex / 2 ^ j) % m ∧ Below w.heap.size w w4) := ⟨S4.out, by rw [HST.out.1]; exact HST.out.2, HB4.out⟩
            have t1 : (((0 : Nat) : Int) == 1) = false := by simp
            clear HST S4 HB4
            go_wp2
            go_roundw
            case rel => exact ⟨j, v2, A4, k4, d4, rfl, rfl, by omega, hv2m, m4, p4, HN.out⟩
            case measure => simp [intOf]
          · have C2 := ML.out w4 A4 k4 d4 v2 A n c x HB4.out S4.out hv2m (HA.out.below HB4.out) HX.out.2 HX.out.1 ⟨m4, p4⟩ hc (by omega) (by omega)
            have hvx : v2 * val x % m = val x ^ (val ex / 2 ^ j) % m := by
              rw [HST.out.1, HST.out.2, Nat.mod_mul_mod, ← Nat.pow_succ]
            obtain ⟨v3, hv3⟩ : ∃ v3, v2 * val x % m = v3 := ⟨_, rfl⟩
            rw [hv3] at C2 hvx
            have hv3m : v3 < m := by rw [← hv3]; exact Nat.mod_lt _ hm0
            have C2 := Lib.hid C2
            have HVX := Lib.hid hvx
            have t1 : (((1 : Nat) : Int) == 1) = true := by simp
            clear hv3 hvx HST S4
            go_wp2_with fail
            refine C2.out.mono ?_
            rintro e w5 ⟨A5, k5, d5, rfl, s5, l5, m5, p5, hb⟩
            have HN : Hid (RU w5 A5 k5 (num v3) ∧ v3 = val x ^ (val ex / 2 ^ j) % m ∧ Below w.heap.size w w5) := ⟨s5, HVX.out, kp_call HB4.out hb⟩
            clear C2 s5 hb HB4
            go_wp2
            go_roundw
            case rel => exact ⟨j, v3, A5, k5, d5, rfl, rfl, by omega, hv3m, m5, p5, HN.out⟩
            case measure => simp [intOf]
end Go.Proofs.YtbplchpbaonadaaDoor
namespace Go.Proofs.YtbplchpbaonadaaDoor
open Go.RowKit Go
set_option linter.unusedVariables false
set_option linter.unusedSimpArgs false
set_option maxRecDepth 100000
set_option exponentiation.threshold 10000
set_option maxHeartbeats 4000000 in
theorem dverify_any (A : Option Addr) (n c e : Nat) (N : List UInt8) (cs : Array Value) (d : List UInt8) (B : Option Addr) (m k : Nat) (sig : List UInt8) (w : World) (hL : Lens w) (hA : RB w A n N) (hn : n ≤ 1000000) (he : e < 18446744073709551616) (hd : IsDg cs d) (hB : RB w B m sig) (hm : m ≤ 1000000) :
    Calls Tryd.prog 17 #[.agg #[.slice A n c, .int .u64 (e : Int)], .agg cs, .slice B m k] w fun r w' => r = .returned (.bool (verB N e d sig)) ∧ Below w.heap.size w w' := by
  have SD := Lib.hid (fun W (hb : Below w.heap.size w W) => dsound_any A n c e N W (hA.below hb) (hL.below' hb) (by omega) he)
  have HA := Lib.hid hA
  have HB := Lib.hid hB
  have HD := Lib.hid hd
  have HI := Lib.hid hd.info
  have hnl : n = N.length := hA.1.symm
  have hml : m = sig.length := hB.1.symm
  have VB : Hid (verB N e d sig = (soundB N e && decide (sig.length = N.length) && decide (beV sig < beV N) && (beN (beV sig ^ e % beV N) N.length == encL d N.length))) := rfl
  unfold soundZ at SD
  cases hs : soundB N e with
  | false =>
    have HV : Hid (verB N e d sig = false) := by
      show verB N e d sig = false
      rw [VB.out, hs]; rfl
    rw [hs] at SD
    clear VB hs hL hA hd hB hnl hml
    go_enter Tryd.func17, Tryd.ntmps17
    go_wp2_with fail
    refine calls_nm fun W hW => ?_
    have hbW : Below w.heap.size w W := by rw [← hW]; exact kp_alloc (kp_alloc (Below.refl _ _) _) _
    clear hW
    refine (SD.out _ hbW).mono ?_
    rintro r w1 ⟨rfl, hb1⟩
    have HF := Lib.hid (kp_call hbW hb1)
    clear hb1 hbW
    go_wp2
    go_ret
    exact ⟨by rw [HV.out]; rfl, HF.out⟩
  | true =>
    rw [hs] at SD
    obtain ⟨l1, l2, hmay, e1, e2⟩ := sound_is hs
    by_cases hlen : m = n
    rotate_left
    · have HV : Hid (verB N e d sig = false) := by
        show verB N e d sig = false
        rw [VB.out, decide_eq_false (show ¬ sig.length = N.length by omega), hs]; rfl
      have q1 : ((m : Int) != (n : Int)) = true := by simp; omega
      have q2 : ¬ m = n := hlen
      clear VB hs hL hA hd hB hnl hml hmay
      go_enter Tryd.func17, Tryd.ntmps17
      go_wp2_with fail
      refine calls_nm fun W hW => ?_
      have hbW : Below w.heap.size w W := by rw [← hW]; exact kp_alloc (kp_alloc (Below.refl _ _) _) _
      have hk : W.heap[w.heap.size]? = some (.cells #[.slice A n c, .int .u64 (e : Int)] 26) := by rw [← hW]; exact has_alloc (has_new _ _) _
      clear hW
      refine (SD.out _ hbW).mono ?_
      rintro r w1 ⟨rfl, hb1⟩
      obtain ⟨c0, c1⟩ := cells_2 (has_below hk hb1)
      have HF := Lib.hid (kp_call hbW hb1)
      clear hb1 hbW hk
      go_wp2
      go_ret
      exact ⟨by rw [HV.out]; rfl, HF.out⟩
    · subst hlen
      have q1 : ((m : Int) != (m : Int)) = false := by simp
      have OFN := Lib.hid (fun W (hb : Below w.heap.size w W) => dof_any A m c N W (hA.below hb) (by omega))
      have OFS := Lib.hid (fun W (hb : Below w.heap.size w W) => dof_any B m k sig W (hB.below hb) (by omega))
      rw [show ofQ N = (num (beV N), 0) by unfold ofQ; rw [if_pos (by omega)]] at OFN
      rw [show ofQ sig = (num (beV sig), 0) by unfold ofQ; rw [if_pos (by omega)]] at OFS
      have HMAY := Lib.hid hmay
      have EX := Lib.hid (fun W => dlimbs_any e (by omega) W)
      have hsr : rightB (num (beV sig)) = true := num_right_of (beV_lt sig) (by omega)
      have her := e_right e2
      have hVB := VB.out
      rw [hs, decide_eq_true (show sig.length = N.length by omega)] at hVB
      have hNL := beV_lt N
      have HE := Lib.hid (dencode_any m (by omega) (by omega) cs d)
      have hmN : N.length = m := by omega
      rw [hmN] at hVB hNL
      obtain ⟨nv, hnv⟩ : ∃ nv, beV N = nv := ⟨_, rfl⟩
      obtain ⟨sv, hsv⟩ : ∃ sv, beV sig = sv := ⟨_, rfl⟩
      rw [hnv] at OFN HMAY hVB hNL
      rw [hsv] at OFS hsr hVB
      have HVB := Lib.hid hVB
      have HSR := Lib.hid hsr
      have HER := Lib.hid her
      have HNL := Lib.hid hNL
      have hm5 : m ≤ 512 := by omega
      clear VB hs hL hA hd hB hnl hml hmay hsr her hVB hNL hnv hsv l1 e1 e2 hmN l2
      go_enter Tryd.func17, Tryd.ntmps17
      go_wp2_with fail
      refine calls_nm fun W hW => ?_
      have hbW : Below w.heap.size w W := by rw [← hW]; exact kp_alloc (kp_alloc (Below.refl _ _) _) _
      have hk : W.heap[w.heap.size]? = some (.cells #[.slice A m c, .int .u64 (e : Int)] 26) := by rw [← hW]; exact has_alloc (has_new _ _) _
      have hg : W.heap[w.heap.size + 1]? = some (.cells cs 22) := by rw [← hW]; exact has_new' _ _ _ (by simp)
      clear hW
      refine (SD.out _ hbW).mono ?_
      rintro r w1 ⟨rfl, hb1⟩
      have K1 := Lib.hid (has_below hk hb1)
      have G1 := Lib.hid (has_below hg hb1)
      have B1 := Lib.hid (kp_call hbW hb1)
      obtain ⟨c0, c1⟩ := cells_2 K1.out
      clear hb1 hbW hk hg SD
      go_wp2_with fail
      refine (OFN.out _ B1.out).mono ?_
      rintro r w2 ⟨A2, n2, c2, rfl, hs2, h1, h2, h3, hb2⟩
      have K2 := Lib.hid (has_below K1.out hb2)
      have G2 := Lib.hid (has_below G1.out hb2)
      have B2 := Lib.hid (kp_call B1.out hb2)
      have RN := Lib.hid hs2
      obtain ⟨d0, d1⟩ := cells_2 K2.out
      clear hb2 hs2 c0 c1 K1 G1 B1 OFN
      go_wp2_with fail
      refine (OFS.out _ B2.out).mono ?_
      rintro r w3 ⟨A3, n3, c3, rfl, hs3, h4, h5, h6, hb3⟩
      have K3 := Lib.hid (has_below K2.out hb3)
      have G3 := Lib.hid (has_below G2.out hb3)
      have B3 := Lib.hid (kp_call B2.out hb3)
      have RN3 := Lib.hid (RN.out.below hb3)
      have RS := Lib.hid hs3
      obtain ⟨x0, x1⟩ := cells_2 K3.out
      clear hb3 hs3 d0 d1 K2 G2 B2 RN OFS
      go_wp2_with fail
      refine (EX.out _).mono ?_
      rintro r w5 ⟨w4, hb4, A5, n5, c5, rfl, hr5, h7, h8, h9, hb5'⟩
      have hb5 := kp_call hb4 hb5'
      have K5 := Lib.hid (has_below K3.out hb5)
      have G5 := Lib.hid (has_below G3.out hb5)
      have B5 := Lib.hid (kp_call B3.out hb5)
      have ME := dExpm_any A3 A5 A2 n3 c3 n5 c5 n2 c2 (num sv) (num e) (num nv) w5 (RS.out.below hb5) hr5 (RN3.out.below hb5) (by omega) (by omega) ⟨by omega, by omega⟩ ⟨by omega, by omega⟩ HMAY.out
      rw [val_num] at ME
      have ME := Lib.hid ME
      obtain ⟨z0, z1⟩ := cells_2 K5.out
      clear hb5 hb5' hb4 hr5 x0 x1 K3 G3 B3 RS RN3 EX
      by_cases hlt : sv < nv
      rotate_left
      · have HV : Hid (verB N e d sig = false) := by
          show verB N e d sig = false
          rw [HVB.out, decide_eq_false hlt]; rfl
        have hq : mexpQ (num sv) (num e) nv = ([], 1) := by
          unfold mexpQ underB
          rw [val_num, decide_eq_false hlt, Bool.and_false, Bool.false_and, if_neg (by decide)]
        rw [hq] at ME
        clear hq hlt HVB
        go_wp2_with fail
        refine ME.out.mono ?_
        rintro r w6 ⟨A6, n6, c6, rfl, hs6, h18, h19, h20, hb6⟩
        have HF := Lib.hid (kp_call B5.out hb6)
        clear hb6 hs6 ME
        go_wp2
        go_ret
        exact ⟨by rw [HV.out]; rfl, HF.out⟩
      · have hq : mexpQ (num sv) (num e) nv = (num (sv ^ e % nv), 0) := by
          unfold mexpQ underB
          rw [val_num, val_num, decide_eq_true hlt, HSR.out, HER.out]
          rfl
        rw [hq] at ME
        have hVB := HVB.out
        rw [decide_eq_true hlt] at hVB
        obtain ⟨pv, hpv⟩ : ∃ pv, sv ^ e % nv = pv := ⟨_, rfl⟩
        have hpl : pv < 256 ^ m := by rw [← hpv]; exact Nat.lt_trans (Nat.mod_lt _ (by omega)) HNL.out
        rw [hpv] at ME hVB
        have HV2 := Lib.hid hVB
        have HPL := Lib.hid hpl
        clear hq hlt HVB hVB hpv hpl
        go_wp2_with fail
        refine ME.out.mono ?_
        rintro r w6 ⟨A6, n6, c6, rfl, hs6, h18, h19, h20, hb6⟩
        have K6 := Lib.hid (has_below K5.out hb6)
        have G6 := Lib.hid (has_below G5.out hb6)
        have B6 := Lib.hid (kp_call B5.out hb6)
        have RP := Lib.hid hs6
        obtain ⟨u0, u1⟩ := cells_2 K6.out
        have OC := doct_good A6 n6 c6 m (num pv) w6 hs6 (by have h1 := hs6.len; have h2 := (num_len pv 128).2 (Nat.lt_of_lt_of_le HPL.out (Nat.le_trans (Nat.pow_le_pow_right (by decide) hm5) (by rw [show (256 : Nat) ^ 512 = 4294967296 ^ 128 by decide +kernel]; exact Nat.le_refl _))); simp only at h1; omega) (by rw [num_right]; exact decide_eq_true (Nat.lt_of_lt_of_le HPL.out (Nat.le_trans (Nat.pow_le_pow_right (by decide) hm5) (by rw [show (256 : Nat) ^ 512 = 4294967296 ^ 128 by decide +kernel]; exact Nat.pow_le_pow_right (by decide) (by decide))))) (by omega)
        rw [val_num, if_pos (bits_oct HPL.out)] at OC
        have OC := Lib.hid OC
        clear hb6 hs6 z0 z1 K5 G5 B5 ME
        go_wp2_with fail
        refine OC.out.mono ?_
        rintro r w7 ⟨A7, n7, c7, rfl, ho7, h11, h12, hb7⟩
        have K7 := Lib.hid (has_below K6.out hb7)
        have G7 := Lib.hid (has_below G6.out hb7)
        have B7 := Lib.hid (kp_call B6.out hb7)
        have RG := Lib.hid ho7.rb
        obtain ⟨v0, v1⟩ := cells_2 K7.out
        clear hb7 ho7 u0 u1 K6 G6 B6 OC
        go_wp2_with (refine wpList_load_row rfl _ _ rfl (w.heap.size + 1) rfl _ _ _ _ G7.out Tryd.underlying22 rfl HI.out ?_)
        refine (HE.out w7 HD.out.l HD.out.v).mono ?_
        rintro r w8 ⟨A8, c8, rfl, ho8, hb8⟩
        have B8 := Lib.hid (kp_call B7.out hb8)
        have RG8 := Lib.hid (RG.out.below hb8)
        have RW := Lib.hid ho8.rb
        clear hb8 ho8 v0 v1 K7 G7 B7 HE RG
        go_wp2_with fail
        refine (dsame_any _ _ _ _ _ _ _ _ _ RG8.out RW.out).mono ?_
        rintro r w9 ⟨rfl, rfl⟩
        go_wp2
        go_ret
        exact ⟨by rw [HV2.out]; simp, B8.out⟩
end Go.Proofs.YtbplchpbaonadaaDoor
namespace Go.Proofs.YtbplchpbaonadaaDoor
open Go.RowKit Go
set_option linter.unusedVariables false
set_option linter.unusedSimpArgs false
set_option maxRecDepth 100000
set_option exponentiation.threshold 10000
def par (d : List UInt8) : Nat := if (d.getD 31 0).toNat % 2 = 0 then 1 else 0
def limbS (p : Nat) : List Nat := p :: (List.replicate 20 0 ++ [1536])
def forS (d : List UInt8) : Nat := par d + 1536 * 4294967296 ^ 21
def forX (d : List UInt8) : Nat := beV (encL d 256)
def forN (d : List UInt8) : Nat := forS d * forS d * forS d - forX d
def keyN (d : List UInt8) : List UInt8 := beN (forN d) 256
def sigN (d : List UInt8) : List UInt8 := beN (forS d) 256
theorem par_le (d : List UInt8) : par d ≤ 1 := by unfold par; split <;> omega
theorem val_limbS (p : Nat) : val (limbS p) = p + 1536 * 4294967296 ^ 21 := by
  unfold limbS
  show p + 4294967296 * val (List.replicate 20 0 ++ [1536]) = _
  rw [show val (List.replicate 20 0 ++ [1536]) = 1536 * 4294967296 ^ 20 by decide +kernel, show 4294967296 * (1536 * 4294967296 ^ 20) = 1536 * 4294967296 ^ 21 by decide +kernel]
structure KF (d : List UInt8) : Prop where
  x : forX d < 256 ^ 255
  s3 : forS d * forS d * forS d = forN d + forX d
  n1 : 128 * 256 ^ 255 ≤ forN d
  n2 : forN d < 256 ^ 256
  sn : forS d < forN d
  odd : forN d % 2 = 1
  cube : forS d ^ 3 % forN d = forX d
  sq : forS d * forS d < 4294967296 ^ 256
  cu : forS d * forS d * forS d < 4294967296 ^ 256
theorem kf_arith (S X N T U V q cu p : Nat) (hN : N = cu - X) (hX : X < T) (c1 : cu < U) (c2 : 128 * T + T ≤ cu) (c3 : S < 128 * T) (c4 : cu % 2 = p) (c5 : q < U) (hx : X % 2 = 1 - p) (hp : p ≤ 1) (hV : U ≤ V) :
    cu = N + X ∧ 128 * T ≤ N ∧ N < U ∧ S < N ∧ N % 2 = 1 ∧ X < N ∧ q < V ∧ cu < V := by omega
theorem key_facts (d : List UInt8) (hd : d.length = 32) : KF d := by
  have hX : forX d < 256 ^ 255 := by
    unfold forX
    have e1 : encL d 256 = 0 :: (encL d 256).tail := by unfold encL; rfl
    have hl := encL_len d 256 hd (by decide)
    rw [e1, beV_cons]
    have h2 := beV_lt (encL d 256).tail
    rw [List.length_tail, hl] at h2
    simpa using h2
  have hpx : forX d % 2 = 1 - par d := by
    unfold forX
    have hl := encL_len d 256 hd (by decide)
    rw [beV_last _ (by omega), hl]
    have e1 : (encL d 256).getD 255 0 = d.getD 31 0 := by
      unfold encL
      rw [List.getD_eq_getElem?_getD, List.getElem?_append_right (by simp [aheadL]), List.getD_eq_getElem?_getD]
      simp [aheadL]
    rw [show 256 - 1 = 255 from rfl, e1]
    unfold par
    split <;> omega
  have hp := par_le d
  obtain ⟨p, hpd⟩ : ∃ p, par d = p := ⟨_, rfl⟩
  have hS : forS d = p + 1536 * 4294967296 ^ 21 := by unfold forS; rw [hpd]
  rw [hpd] at hp hpx
  have hc : (p + 1536 * 4294967296 ^ 21) * (p + 1536 * 4294967296 ^ 21) * (p + 1536 * 4294967296 ^ 21) < 256 ^ 256 ∧ 128 * 256 ^ 255 + 256 ^ 255 ≤ (p + 1536 * 4294967296 ^ 21) * (p + 1536 * 4294967296 ^ 21) * (p + 1536 * 4294967296 ^ 21) ∧ (p + 1536 * 4294967296 ^ 21) < 128 * 256 ^ 255 ∧ (p + 1536 * 4294967296 ^ 21) * (p + 1536 * 4294967296 ^ 21) * (p + 1536 * 4294967296 ^ 21) % 2 = p ∧ (p + 1536 * 4294967296 ^ 21) * (p + 1536 * 4294967296 ^ 21) < 256 ^ 256 := by
    rcases (show p = 0 ∨ p = 1 by omega) with rfl | rfl
    · decide +kernel
    · decide +kernel
  rw [← hS] at hc
  obtain ⟨c1, c2, c3, c4, c5⟩ := hc
  have hN : forN d = forS d * forS d * forS d - forX d := rfl
  have hbig : (256 : Nat) ^ 256 ≤ 4294967296 ^ 256 := Nat.pow_le_pow_left (by decide) _
  obtain ⟨a1, a2, a3, a4, a5, a6, a7, a8⟩ := kf_arith _ _ _ _ _ _ _ _ _ hN hX c1 c2 c3 c4 c5 hpx hp hbig
  refine ⟨hX, a1, a2, a3, a4, a5, ?_, a7, a8⟩
  rw [show forS d ^ 3 = forS d * forS d * forS d by rw [Nat.pow_succ, Nat.pow_two], a1, Nat.add_mod_left]
  exact Nat.mod_eq_of_lt a6
end Go.Proofs.YtbplchpbaonadaaDoor
namespace Go.Proofs.YtbplchpbaonadaaDoor
open Go.RowKit Go
set_option linter.unusedVariables false
set_option linter.unusedSimpArgs false
set_option maxRecDepth 100000
set_option exponentiation.threshold 10000
theorem keyN_len (d : List UInt8) : (keyN d).length = 256 := beN_len _ _
theorem sigN_len (d : List UInt8) : (sigN d).length = 256 := beN_len _ _
theorem keyN_val (d : List UInt8) (hd : d.length = 32) : beV (keyN d) = forN d := by
  unfold keyN
  rw [beN_val]
  exact Nat.mod_eq_of_lt (key_facts d hd).n2
theorem sigN_val (d : List UInt8) (hd : d.length = 32) : beV (sigN d) = forS d := by
  unfold sigN
  rw [beN_val]
  exact Nat.mod_eq_of_lt (Nat.lt_trans (key_facts d hd).sn (key_facts d hd).n2)
theorem key_odd (d : List UInt8) (hd : d.length = 32) : ((keyN d).getD 255 0).toNat % 2 = 1 := by
  have h := beV_last (keyN d) (by rw [keyN_len]; decide)
  rw [keyN_val d hd, (key_facts d hd).odd, keyN_len] at h
  exact h.symm
theorem key_top (d : List UInt8) (hd : d.length = 32) : 128 ≤ ((keyN d).getD 0 0).toNat := by
  have hl := keyN_len d
  have hv := keyN_val d hd
  have h1 := (key_facts d hd).n1
  generalize keyN d = k at *
  cases k with
  | nil => simp at hl
  | cons x t =>
    rw [beV_cons] at hv
    have h2 := beV_lt t
    have h3 : t.length = 255 := by simpa using hl
    rw [h3] at hv h2
    show 128 ≤ x.toNat
    rcases Nat.lt_or_ge x.toNat 128 with h4 | h4
    · exfalso
      have h5 : (x.toNat + 1) * 256 ^ 255 ≤ 128 * 256 ^ 255 := Nat.mul_le_mul_right _ (by omega)
      rw [Nat.add_mul, Nat.one_mul] at h5
      generalize (256 : Nat) ^ 255 = T at *
      omega
    · exact h4
theorem key_sound (d : List UInt8) (hd : d.length = 32) (e : Nat) : soundB (keyN d) e = (decide (e % 2 = 1) && decide (3 ≤ e) && decide (e < 8589934592)) := by
  unfold soundB
  rw [keyN_len, decide_eq_true (key_top d hd), decide_eq_true (show ((keyN d).getD (256 - 1) 0).toNat % 2 = 1 from key_odd d hd)]
  simp
theorem encL_inj {a b : List UInt8} (ha : a.length = 32) (hb : b.length = 32) (h : encL a 256 = encL b 256) : a = b := by
  unfold encL at h
  exact List.append_cancel_left h
theorem verB_for (a b : List UInt8) (ha : a.length = 32) (hb : b.length = 32) : verB (keyN a) 3 b (sigN a) = decide (a = b) := by
  unfold verB
  rw [key_sound a ha, keyN_val a ha, sigN_val a ha, keyN_len, sigN_len, decide_eq_true (key_facts a ha).sn, (key_facts a ha).cube]
  have h1 : beN (forX a) 256 = encL a 256 := by
    have := beN_same (encL a 256)
    rw [encL_len a 256 ha (by decide)] at this
    exact this
  rw [h1]
  by_cases hab : a = b
  · subst hab; simp
  · rw [decide_eq_false hab]
    have : (encL a 256 == encL b 256) = false := by
      rw [beq_eq_false_iff_ne]
      exact fun h => hab (encL_inj ha hb h)
    rw [this]; simp
/-- What For answers. -/
def ForPost (w : World) (d : List UInt8) (e : Ending) (w' : World) : Prop :=
  ∃ A c B k, e = .returned (.tuple #[.agg #[.slice A 256 c, .int .u64 3], .slice B 256 k]) ∧ OwnB w' w.heap.size A 256 c (keyN d) ∧ OwnB w' w.heap.size B 256 k (sigN d) ∧ Below w.heap.size w w'
theorem dg_at {cs : Array Value} {d : List UInt8} (h : IsDg cs d) (i : Nat) (hi : i < 32) : cs[i]? = some (.int .u8 ((d.getD i 0).toNat : Int)) := by
  rw [← Array.getElem?_toList, h.v, List.getElem?_map, List.getElem?_eq_getElem (by rw [h.l]; exact hi), Option.map_some, List.getD_eq_getElem?_getD, List.getElem?_eq_getElem (by rw [h.l]; exact hi)]
  rfl
theorem lim_limbS (p : Nat) (hp : p ≤ 1) : Lim (limbS p) := by
  refine Lim.cons (by omega) (Lim.append (Lim.rep 20) (Lim.cons (by decide) Lim.nil))
theorem right_limbS (p : Nat) : rightB (limbS p) = true := by
  unfold rightB limbS
  simp
theorem blk_whole {w : World} {g n : Nat} {L : List Nat} (h : BlkU w g L) (hl : Lim L) (hn : L.length = n) : RU w (some ⟨g, 0, none⟩) n L := by
  have := h.ru hl 0 n (by omega)
  rw [List.drop_zero, List.take_of_length_le (by omega)] at this
  exact this
set_option maxHeartbeats 4000000 in
theorem for_any (cs : Array Value) (d : List UInt8) (hd : IsDg cs d) (w : World) :
    Calls Tryd.prog 18 #[.agg cs] w (ForPost w d) := by
  have KF := key_facts d hd.l
  have HI := Lib.hid hd.info
  have HD := Lib.hid hd
  have hpl := par_le d
  obtain ⟨q, hq⟩ : ∃ q, d.getD 31 0 = q := ⟨_, rfl⟩
  have hat := dg_at hd 31 (by decide)
  rw [hq] at hat
  have hpq : par d = if q.toNat % 2 = 0 then 1 else 0 := by unfold par; rw [hq]
  obtain ⟨p, hp⟩ : ∃ p, par d = p := ⟨_, rfl⟩
  rw [hp] at hpl hpq
  have hvs : val (limbS p) = forS d := by rw [val_limbS]; unfold forS; rw [hp]
  have HVS := Lib.hid hvs
  have HKF := Lib.hid KF
  have HE := Lib.hid (dencode_any 256 (by decide) (by decide) cs d)
  have R1 : Hid (rightB (limbS p) = true ∧ Lim (limbS p) ∧ (limbS p).length = 22) := ⟨right_limbS p, lim_limbS p hpl, by simp [limbS]⟩
  have HPQ := Lib.hid hpq
  have REST : Hid (∀ (W : World) (G : Nat), Below w.heap.size w W → W.heap[w.heap.size]? = some (.cells cs 22) → BlkU W G (limbS p) → True) := fun _ _ _ _ _ => trivial
  clear hd KF hvs hpq hq REST
  have hq2 : (q.toNat : Int).tmod 2 = ((q.toNat % 2 : Nat) : Int) := by rw [Int.tmod_eq_emod_of_nonneg (by omega)]; omega
  have hq3 : (q.toNat : Int) % 2 = ((q.toNat % 2 : Nat) : Int) := by omega
  have hqq : q.toNat % 2 = 0 ∨ q.toNat % 2 = 1 := by omega
  have tail : ∀ (W : World) (G : Nat), True := fun _ _ => trivial
  clear tail
  go_enter Tryd.func18, Tryd.ntmps18
  go_wp2_with (refine wpList_mkU _ _ rfl rfl _ _ _ _ 22 rfl rfl rfl rfl (by omega) ?_)
  intro W hz hbW
  have hbW' : Below ((w.alloc (.cells cs 22)).alloc (.cells #[.slice none 0 0, .int .u64 0] 26)).heap.size ((w.alloc (.cells cs 22)).alloc (.cells #[.slice none 0 0, .int .u64 0] 26)) W := by
    rw [World.size_alloc, World.size_alloc]; exact hbW
  have hB0 : Below w.heap.size w W := kp_call (kp_alloc (kp_alloc (Below.refl _ _) _) _) hbW'
  have hg0 : W.heap[w.heap.size]? = some (.cells cs 22) := has_below (has_alloc (has_new w _) _) hbW'
  have hk0 : W.heap[w.heap.size + 1]? = some (.cells #[.slice none 0 0, .int .u64 0] 26) := has_below (has_new' _ _ _ (by simp)) hbW'
  have hz' : BlkU W (w.heap.size + 1 + 1) (List.replicate 22 0) := by simpa using hz
  have f21 := hz'.free 21
  have c31w : W.cell? ⟨w.heap.size, 31, none⟩ = some (.int .u8 (q.toNat : Int)) := (Lib.cell_of_heap hg0 31).trans hat
  have z1 : BlkU (W.setCell ⟨w.heap.size + 1 + 1, 21, none⟩ (.int .u32 1536)) (w.heap.size + 1 + 1) (limbS 0) := hz'.set 21 1536
  have f0 := z1.free 0
  have e21 := hz'.cell (j := 21) (by simp)
  have e0 := z1.cell (j := 0) (by simp [limbS])
  have hg1 : (W.setCell ⟨w.heap.size + 1 + 1, 21, none⟩ (.int .u32 1536)).heap[w.heap.size]? = some (.cells cs 22) := has_set hg0 (by omega)
  have hk1 : (W.setCell ⟨w.heap.size + 1 + 1, 21, none⟩ (.int .u32 1536)).heap[w.heap.size + 1]? = some (.cells #[.slice none 0 0, .int .u64 0] 26) := has_set hk0 (by omega)
  have hB1 : Below w.heap.size w (W.setCell ⟨w.heap.size + 1 + 1, 21, none⟩ (.int .u32 1536)) := kp_set hB0 (by omega)
  have c31 : (W.setCell ⟨w.heap.size + 1 + 1, 21, none⟩ (.int .u32 1536)).cell? ⟨w.heap.size, 31, none⟩ = some (.int .u8 (q.toNat : Int)) := (Lib.cell_of_heap hg1 31).trans hat
  have z2 : BlkU ((W.setCell ⟨w.heap.size + 1 + 1, 21, none⟩ (.int .u32 1536)).setCell ⟨w.heap.size + 1 + 1, 0, none⟩ (.int .u32 1)) (w.heap.size + 1 + 1) (limbS 1) := z1.set 0 1
  have hg2 : ((W.setCell ⟨w.heap.size + 1 + 1, 21, none⟩ (.int .u32 1536)).setCell ⟨w.heap.size + 1 + 1, 0, none⟩ (.int .u32 1)).heap[w.heap.size]? = some (.cells cs 22) := has_set hg1 (by omega)
  have hk2 : ((W.setCell ⟨w.heap.size + 1 + 1, 21, none⟩ (.int .u32 1536)).setCell ⟨w.heap.size + 1 + 1, 0, none⟩ (.int .u32 1)).heap[w.heap.size + 1]? = some (.cells #[.slice none 0 0, .int .u64 0] 26) := has_set hk1 (by omega)
  have hB2 : Below w.heap.size w ((W.setCell ⟨w.heap.size + 1 + 1, 21, none⟩ (.int .u32 1536)).setCell ⟨w.heap.size + 1 + 1, 0, none⟩ (.int .u32 1)) := kp_set hB1 (by omega)
  have Z1 := Lib.hid (And.intro z1 (And.intro hg1 (And.intro hk1 hB1)))
  have Z2 := Lib.hid (And.intro z2 (And.intro hg2 (And.intro hk2 hB2)))
  clear hbW hbW' hB0 hg0 hk0 hz z1 z2 hg1 hg2 hk1 hk2 hB1 hB2 hz'
  rcases hqq with h0 | h0
  · obtain rfl : p = 1 := by rw [HPQ.out, h0]; rfl
    have t1 : (q.toNat : Int).tmod 2 = 0 := by rw [hq2, h0]; rfl
    have t2 : (q.toNat : Int) % 2 = 0 := by rw [hq3, h0]; rfl
    clear hq2 hq3 HPQ
    go_upto_region 5 with (fail)
    refine wp_nm fun wc hwc => ?_
    have HZ : Hid (BlkU wc (w.heap.size + 1 + 1) (limbS 1) ∧ wc.heap[w.heap.size]? = some (.cells cs 22) ∧ wc.heap[w.heap.size + 1]? = some (.cells #[.slice none 0 0, .int .u64 0] 26) ∧ Below w.heap.size w wc) := by rw [← hwc]; exact Z2.out
    clear Z1 Z2 c31 c31w f0 f21 e21 e0 hwc t1 t2 h0
    go_wp2_with (refine wpList_load_row rfl _ _ rfl w.heap.size rfl _ _ _ _ HZ.out.2.1 Tryd.underlying22 rfl HI.out ?_)
    refine (HE.out wc HD.out.l HD.out.v).mono ?_
    rintro r w2 ⟨A2, c2, rfl, ho2, hb2⟩
    have OF := Lib.hid (dof_any A2 256 c2 _ w2 ho2.rb (by omega))
    rw [show ofQ (encL d 256) = (num (forX d), 0) by unfold ofQ forX; rw [if_pos (by rw [encL_len d 256 HD.out.l (by decide)]; decide)]] at OF
    have S2 := Lib.hid (blk_whole (HZ.out.1.below hb2) R1.out.2.1 R1.out.2.2)
    have B2 := Lib.hid (kp_call HZ.out.2.2.2 hb2)
    have K2 := Lib.hid (has_below HZ.out.2.2.1 hb2)
    clear ho2 hb2 HZ HE
    go_wp2_with fail
    refine OF.out.mono ?_
    rintro r w3 ⟨A3, n3, c3, rfl, hr3, h1, h2, h3, hb3⟩
    have S3 := Lib.hid (S2.out.below hb3)
    have B3 := Lib.hid (kp_call B2.out hb3)
    have K3 := Lib.hid (has_below K2.out hb3)
    have X3 := Lib.hid hr3
    clear hb3 hr3 S2 B2 K2 OF
    go_wp2_with fail
    have M1 := dMul_any _ _ 22 22 22 22 _ _ w3 S3.out S3.out (by omega) (by omega) ⟨by omega, by omega⟩ ⟨by omega, by omega⟩
    rw [show mulQ (limbS 1) (limbS 1) = (num (forS d * forS d), 0) by unfold mulQ fitQ; rw [R1.out.1, HVS.out, if_pos (by rfl), if_pos HKF.out.sq]] at M1
    refine M1.mono ?_
    clear M1
    rintro r w4 ⟨A4, n4, c4, rfl, hr4, h4, h5, h6, hb4⟩
    have S4 := Lib.hid (S3.out.below hb4)
    have B4 := Lib.hid (kp_call B3.out hb4)
    have K4 := Lib.hid (has_below K3.out hb4)
    have X4 := Lib.hid (X3.out.below hb4)
    have Q4 := Lib.hid hr4
    clear hb4 hr4 S3 B3 K3 X3
    go_wp2_with fail
    have M2 := dMul_any A4 _ n4 c4 22 22 _ _ w4 Q4.out S4.out (by omega) (by omega) ⟨by omega, by omega⟩ ⟨by omega, by omega⟩
    rw [show mulQ (num (forS d * forS d)) (limbS 1) = (num (forS d * forS d * forS d), 0) by unfold mulQ fitQ; rw [R1.out.1, HVS.out, val_num, num_right, decide_eq_true HKF.out.sq, if_pos (by rfl), if_pos HKF.out.cu]] at M2
    refine M2.mono ?_
    clear M2
    rintro r w5 ⟨A5, n5, c5, rfl, hr5, h7, h8, h9, hb5⟩
    have S5 := Lib.hid (S4.out.below hb5)
    have B5 := Lib.hid (kp_call B4.out hb5)
    have K5 := Lib.hid (has_below K4.out hb5)
    have X5 := Lib.hid (X4.out.below hb5)
    have Q5 := Lib.hid hr5
    clear hb5 hr5 S4 B4 K4 X4 Q4
    go_wp2_with fail
    have M3 := dSub_any A5 A3 n5 c5 n3 c3 _ _ w5 Q5.out X5.out (by omega) (by omega) ⟨by omega, by omega⟩ ⟨by omega, by omega⟩
    have hxb : rightB (num (forX d)) = true := by rw [num_right]; exact decide_eq_true (Nat.lt_of_le_of_lt (by have := HKF.out.s3; omega) HKF.out.cu)
    rw [show subQ (num (forS d * forS d * forS d)) (num (forX d)) = (num (forN d), 0) by unfold subQ; rw [val_num, val_num, hxb, num_right, decide_eq_true HKF.out.cu, decide_eq_true (show forX d ≤ forS d * forS d * forS d by have := HKF.out.s3; omega)]; rfl] at M3
    refine M3.mono ?_
    clear M3 hxb
    rintro r w6 ⟨A6, n6, c6, rfl, hr6, h10, h11, h12, hb6⟩
    have S6 := Lib.hid (S5.out.below hb6)
    have B6 := Lib.hid (kp_call B5.out hb6)
    have K6 := Lib.hid (has_below K5.out hb6)
    have hnr : rightB (num (forN d)) = true := by rw [num_right]; exact decide_eq_true (Nat.lt_of_lt_of_le HKF.out.n2 (Nat.pow_le_pow_left (by decide) _))
    have O1 := doct_good A6 n6 c6 256 (num (forN d)) w6 hr6 (by omega) hnr (by omega)
    rw [val_num, if_pos (bits_oct HKF.out.n2)] at O1
    have O1 := Lib.hid O1
    clear hb6 hr6 S5 B5 K5 X5 Q5 hnr
    go_wp2_with fail
    refine O1.out.mono ?_
    rintro r w7 ⟨A7, n7, c7, rfl, ho7, h13, h14, hb7⟩
    obtain rfl : n7 = 256 := by have := ho7.len; simp only [beN_len] at this; omega
    have S7 := Lib.hid (S6.out.below hb7)
    have B7 := Lib.hid (kp_call B6.out hb7)
    have K7 := Lib.hid (has_below K6.out hb7)
    have hz6 := block_lt K6.out
    have N7 : Hid (OwnB w7 (w.heap.size + 2) A7 256 c7 (keyN d)) := ho7.lower (by omega)
    have O2 := doct_good _ 22 22 256 (limbS 1) w7 S7.out (by omega) R1.out.1 (by omega)
    rw [HVS.out, if_pos (bits_oct (Nat.lt_trans HKF.out.sn HKF.out.n2))] at O2
    have O2 := Lib.hid O2
    clear hb7 ho7 S6 B6 K6 O1 hz6
    go_wp2_with fail
    refine O2.out.mono ?_
    rintro r w8 ⟨A8, n8, c8, rfl, ho8, h15, h16, hb8⟩
    obtain rfl : n8 = 256 := by have := ho8.len; simp only [beN_len] at this; omega
    have B8 := Lib.hid (kp_call B7.out hb8)
    have k8 := has_below K7.out hb8
    have hz7 := block_lt K7.out
    have N8 : Hid (OwnB w8 (w.heap.size + 2) A7 256 c7 (keyN d)) := N7.out.below hb8 (Nat.le_refl _)
    have G8 : Hid (OwnB w8 (w.heap.size + 2) A8 256 c8 (sigN d)) := ho8.lower (by omega)
    obtain ⟨x0, x1⟩ := cells_2 k8
    obtain ⟨y0, y1⟩ := free_2 k8
    clear hb8 ho8 S7 B7 K7 O2 hz7 N7
    go_wp2
    refine bodyPost_ret (results_ct Tryd.results18 _ (LV.agg (set_2 k8) Tryd.underlying26 rfl (by kernel_rfl))) rfl ?_
    refine ⟨A7, c7, A8, c8, rfl, ?_, ?_, ?_⟩
    · exact (N8.out.kept (grown_2 _ _) (.inr (fun e => by have := (N8.out.blk_lt e).1; omega))).lower (by omega)
    · exact (G8.out.kept (grown_2 _ _) (.inr (fun e => by have := (G8.out.blk_lt e).1; omega))).lower (by omega)
    · exact below_2 B8.out (by omega)
  · obtain rfl : p = 0 := by rw [HPQ.out, h0]; rfl
    have t1 : (q.toNat : Int).tmod 2 = 1 := by rw [hq2, h0]; rfl
    have t2 : (q.toNat : Int) % 2 = 1 := by rw [hq3, h0]; rfl
    clear hq2 hq3 HPQ
    go_upto_region 5 with (fail)
    refine wp_nm fun wc hwc => ?_
    have HZ : Hid (BlkU wc (w.heap.size + 1 + 1) (limbS 0) ∧ wc.heap[w.heap.size]? = some (.cells cs 22) ∧ wc.heap[w.heap.size + 1]? = some (.cells #[.slice none 0 0, .int .u64 0] 26) ∧ Below w.heap.size w wc) := by rw [← hwc]; exact Z1.out
    clear Z1 Z2 c31 c31w f0 f21 e21 e0 hwc t1 t2 h0
    go_wp2_with (refine wpList_load_row rfl _ _ rfl w.heap.size rfl _ _ _ _ HZ.out.2.1 Tryd.underlying22 rfl HI.out ?_)
    refine (HE.out wc HD.out.l HD.out.v).mono ?_
    rintro r w2 ⟨A2, c2, rfl, ho2, hb2⟩
    have OF := Lib.hid (dof_any A2 256 c2 _ w2 ho2.rb (by omega))
    rw [show ofQ (encL d 256) = (num (forX d), 0) by unfold ofQ forX; rw [if_pos (by rw [encL_len d 256 HD.out.l (by decide)]; decide)]] at OF
    have S2 := Lib.hid (blk_whole (HZ.out.1.below hb2) R1.out.2.1 R1.out.2.2)
    have B2 := Lib.hid (kp_call HZ.out.2.2.2 hb2)
    have K2 := Lib.hid (has_below HZ.out.2.2.1 hb2)
    clear ho2 hb2 HZ HE
    go_wp2_with fail
    refine OF.out.mono ?_
    rintro r w3 ⟨A3, n3, c3, rfl, hr3, h1, h2, h3, hb3⟩
    have S3 := Lib.hid (S2.out.below hb3)
    have B3 := Lib.hid (kp_call B2.out hb3)
    have K3 := Lib.hid (has_below K2.out hb3)
    have X3 := Lib.hid hr3
    clear hb3 hr3 S2 B2 K2 OF
    go_wp2_with fail
    have M1 := dMul_any _ _ 22 22 22 22 _ _ w3 S3.out S3.out (by omega) (by omega) ⟨by omega, by omega⟩ ⟨by omega, by omega⟩
    rw [show mulQ (limbS 0) (limbS 0) = (num (forS d * forS d), 0) by unfold mulQ fitQ; rw [R1.out.1, HVS.out, if_pos (by rfl), if_pos HKF.out.sq]] at M1
    refine M1.mono ?_
    clear M1
    rintro r w4 ⟨A4, n4, c4, rfl, hr4, h4, h5, h6, hb4⟩
    have S4 := Lib.hid (S3.out.below hb4)
    have B4 := Lib.hid (kp_call B3.out hb4)
    have K4 := Lib.hid (has_below K3.out hb4)
    have X4 := Lib.hid (X3.out.below hb4)
    have Q4 := Lib.hid hr4
    clear hb4 hr4 S3 B3 K3 X3
    go_wp2_with fail
    have M2 := dMul_any A4 _ n4 c4 22 22 _ _ w4 Q4.out S4.out (by omega) (by omega) ⟨by omega, by omega⟩ ⟨by omega, by omega⟩
    rw [show mulQ (num (forS d * forS d)) (limbS 0) = (num (forS d * forS d * forS d), 0) by unfold mulQ fitQ; rw [R1.out.1, HVS.out, val_num, num_right, decide_eq_true HKF.out.sq, if_pos (by rfl), if_pos HKF.out.cu]] at M2
    refine M2.mono ?_
    clear M2
    rintro r w5 ⟨A5, n5, c5, rfl, hr5, h7, h8, h9, hb5⟩
    have S5 := Lib.hid (S4.out.below hb5)
    have B5 := Lib.hid (kp_call B4.out hb5)
    have K5 := Lib.hid (has_below K4.out hb5)
    have X5 := Lib.hid (X4.out.below hb5)
    have Q5 := Lib.hid hr5
    clear hb5 hr5 S4 B4 K4 X4 Q4
    go_wp2_with fail
    have M3 := dSub_any A5 A3 n5 c5 n3 c3 _ _ w5 Q5.out X5.out (by omega) (by omega) ⟨by omega, by omega⟩ ⟨by omega, by omega⟩
    have hxb : rightB (num (forX d)) = true := by rw [num_right]; exact decide_eq_true (Nat.lt_of_le_of_lt (by have := HKF.out.s3; omega) HKF.out.cu)
    rw [show subQ (num (forS d * forS d * forS d)) (num (forX d)) = (num (forN d), 0) by unfold subQ; rw [val_num, val_num, hxb, num_right, decide_eq_true HKF.out.cu, decide_eq_true (show forX d ≤ forS d * forS d * forS d by have := HKF.out.s3; omega)]; rfl] at M3
    refine M3.mono ?_
    clear M3 hxb
    rintro r w6 ⟨A6, n6, c6, rfl, hr6, h10, h11, h12, hb6⟩
    have S6 := Lib.hid (S5.out.below hb6)
    have B6 := Lib.hid (kp_call B5.out hb6)
    have K6 := Lib.hid (has_below K5.out hb6)
    have hnr : rightB (num (forN d)) = true := by rw [num_right]; exact decide_eq_true (Nat.lt_of_lt_of_le HKF.out.n2 (Nat.pow_le_pow_left (by decide) _))
    have O1 := doct_good A6 n6 c6 256 (num (forN d)) w6 hr6 (by omega) hnr (by omega)
    rw [val_num, if_pos (bits_oct HKF.out.n2)] at O1
    have O1 := Lib.hid O1
    clear hb6 hr6 S5 B5 K5 X5 Q5 hnr
    go_wp2_with fail
    refine O1.out.mono ?_
    rintro r w7 ⟨A7, n7, c7, rfl, ho7, h13, h14, hb7⟩
    obtain rfl : n7 = 256 := by have := ho7.len; simp only [beN_len] at this; omega
    have S7 := Lib.hid (S6.out.below hb7)
    have B7 := Lib.hid (kp_call B6.out hb7)
    have K7 := Lib.hid (has_below K6.out hb7)
    have hz6 := block_lt K6.out
    have N7 : Hid (OwnB w7 (w.heap.size + 2) A7 256 c7 (keyN d)) := ho7.lower (by omega)
    have O2 := doct_good _ 22 22 256 (limbS 0) w7 S7.out (by omega) R1.out.1 (by omega)
    rw [HVS.out, if_pos (bits_oct (Nat.lt_trans HKF.out.sn HKF.out.n2))] at O2
    have O2 := Lib.hid O2
    clear hb7 ho7 S6 B6 K6 O1 hz6
    go_wp2_with fail
    refine O2.out.mono ?_
    rintro r w8 ⟨A8, n8, c8, rfl, ho8, h15, h16, hb8⟩
    obtain rfl : n8 = 256 := by have := ho8.len; simp only [beN_len] at this; omega
    have B8 := Lib.hid (kp_call B7.out hb8)
    have k8 := has_below K7.out hb8
    have hz7 := block_lt K7.out
    have N8 : Hid (OwnB w8 (w.heap.size + 2) A7 256 c7 (keyN d)) := N7.out.below hb8 (Nat.le_refl _)
    have G8 : Hid (OwnB w8 (w.heap.size + 2) A8 256 c8 (sigN d)) := ho8.lower (by omega)
    obtain ⟨x0, x1⟩ := cells_2 k8
    obtain ⟨y0, y1⟩ := free_2 k8
    clear hb8 ho8 S7 B7 K7 O2 hz7 N7
    go_wp2
    refine bodyPost_ret (results_ct Tryd.results18 _ (LV.agg (set_2 k8) Tryd.underlying26 rfl (by kernel_rfl))) rfl ?_
    refine ⟨A7, c7, A8, c8, rfl, ?_, ?_, ?_⟩
    · exact (N8.out.kept (grown_2 _ _) (.inr (fun e => by have := (N8.out.blk_lt e).1; omega))).lower (by omega)
    · exact (G8.out.kept (grown_2 _ _) (.inr (fun e => by have := (G8.out.blk_lt e).1; omega))).lower (by omega)
    · exact below_2 B8.out (by omega)
end Go.Proofs.YtbplchpbaonadaaDoor
namespace Go.Proofs.YtbplchpbaonadaaDoor
open Go.RowKit Go
set_option linter.unusedVariables false
set_option linter.unusedSimpArgs false
set_option maxRecDepth 100000
set_option exponentiation.threshold 10000
def dgA (l : List UInt8) : Array Value := (l.map bv).toArray
theorem dgA_is (l : List UInt8) (h : l.length = 32) : IsDg (dgA l) l := ⟨rfl, h⟩
theorem dgA_set (l : List UInt8) (j : Nat) (q : UInt8) : (dgA l).setIfInBounds j (.int .u8 (q.toNat : Int)) = dgA (l.set j q) := by
  unfold dgA
  rw [List.setIfInBounds_toArray, List.map_set]
theorem own_nil6 (w : World) : OwnB (w.alloc (.cells #[] 5)) w.heap.size (some ⟨w.heap.size, 0, none⟩) 0 0 [] :=
  ⟨rfl, .inr ⟨w.heap.size, 0, #[], rfl, Nat.le_refl _, heap_alloc_new w _, Nat.le_refl _, Nat.zero_le _, rfl, rfl⟩⟩
/-- The statements' own 'twin'. -/
theorem twin6_any (A : Option Addr) (n c : Nat) (bs : List UInt8) (w : World) (h : RB w A n bs) (hn : n ≤ 1000000000) :
    Calls Tryd.prog 12 #[.slice A n c] w (Fresh w bs) := by
  go_enter Tryd.func12, Tryd.ntmps12
  go_wp2_with (at_builtin; refine wpList_apn _ _ rfl rfl rfl w.heap.size (some ⟨w.heap.size, 0, none⟩) 0 0 [] rfl (own_nil6 w) A n c _ rfl (h.alloc _) (by omega) (by simp) ?_)
  intro A' c' w' hown hg
  go_wp2
  go_ret
  exact ⟨A', _, c', rfl, by simpa using hown, ((Below.refl _ _).alloc (Nat.le_refl _) _).grown hg (by simp) (by intro k hk; cases hk; exact Nat.le_refl _)⟩
/-- Loading an array where a guard says so. -/
theorem wpList_load_rowG {P : Program} {ops : Array Oper} {rest : List Oper} {o : Oper} {a : Act} {w : World} {Q : Exit → Act → World → Prop} (hw : Region.wanted o (yielded ops a.tmps) = true) (ty : TypeId) (x : Operand) (ho : o.op = .load ty x)
    (g : Nat) (hx : a.eval x = .pointer (some ⟨g, 0, none⟩)) (t : TypeId) (cs : Array Value) (fr : Nat × Nat) (d : TypeDesc) (hg : w.heap[g]? = some (.cells cs t fr))
    (hu : P.underlying ty = some d) (hd : (match d with | .struct _ | .array _ _ => true | _ => false) = true) (hi : (P.info? ty).map (·.size) = some cs.size)
    (h : wpList P ops Q rest (a.put o.dst (.agg cs)) w) : wpList P ops Q (o :: rest) a w :=
  wpList_step fun K hK => by
    rw [if_pos hw]
    exact wp_load_row ty x ho g hx t cs fr d hg hu hd hi (hK _ _ h)
def d90 : List UInt8 := 9 :: List.replicate 31 0
def d91 : List UInt8 := 9 :: 1 :: List.replicate 30 0
theorem sound3 (d : List UInt8) (hd : d.length = 32) : soundZ (keyN d) 3 = 0 := by
  unfold soundZ
  rw [key_sound d hd]
  rfl
set_option maxHeartbeats 4000000 in
theorem works6_any (w : World) (hL : Lens w) : Calls Tryd.prog 19 #[] w fun e w' => e = .returned (.bool true) ∧ Below w.heap.size w w' := by
  have HL := Lib.hid hL
  clear hL
  go_enter Tryd.func19, Tryd.ntmps19
  go_upto_region 2 with (fail)
  refine wp_nm fun W hW => ?_
  have k0 : W.heap[w.heap.size]? = some (.cells (dgA (List.replicate 32 0)) 22) := by rw [← hW]; exact has_new _ _
  have hb0 : Below w.heap.size w W := by rw [← hW]; exact kp_alloc (Below.refl _ _) _
  have c0 : W.cell? ⟨w.heap.size, 0, none⟩ = some (.int .u8 0) := (Lib.cell_of_heap k0 0).trans rfl
  have f0 := Lib.frozen_of_heap k0 0
  have k1 := heap_set_at _ w.heap.size 0 _ _ _ (.int .u8 9) k0
  rw [show (dgA (List.replicate 32 0)).setIfInBounds 0 (.int .u8 9) = dgA d90 from rfl] at k1
  have hb1 : Below w.heap.size w (W.setCell ⟨w.heap.size, 0, none⟩ (.int .u8 9)) := kp_set hb0 (Nat.le_refl _)
  have Z1 := Lib.hid (And.intro k1 hb1)
  clear hW k0 hb0 k1 hb1
  go_upto_region 3 with (fail)
  refine wp_nm fun W1 hW1 => ?_
  have HZ : Hid (W1.heap[w.heap.size]? = some (.cells (dgA d90) 22) ∧ Below w.heap.size w W1) := by rw [← hW1]; exact Z1.out
  clear Z1 hW1 c0 f0
  have hi := (dgA_is d90 (by simp [d90])).info
  go_wp2_with (refine wpList_load_row rfl _ _ rfl w.heap.size rfl _ _ _ _ HZ.out.1 Tryd.underlying22 rfl hi ?_)
  refine (for_any (dgA d90) d90 (dgA_is d90 (by simp [d90])) W1).mono ?_
  rintro e w2 ⟨A, c, B, k, rfl, ho1, ho2, hb2⟩
  have K2 := Lib.hid (has_below HZ.out.1 hb2)
  have B2 := Lib.hid (kp_call HZ.out.2 hb2)
  have hlt1 := block_lt HZ.out.1
  have O2 := Lib.hid (And.intro (ho1.lower (show w.heap.size + 1 ≤ _ from hlt1)) (ho2.lower (show w.heap.size + 1 ≤ _ from hlt1)))
  have hlt2 := block_lt K2.out
  clear HZ ho1 ho2 hb2 hi hlt1
  go_upto_region 4 with (fail)
  refine wp_nm fun W3 hW3 => ?_
  have k3 : W3.heap[w.heap.size]? = some (.cells (dgA d90) 22) := by rw [← hW3]; exact has_alloc K2.out _
  have hk3 : W3.heap[w2.heap.size]? = some (.cells #[.slice A 256 c, .int .u64 3] 26) := by rw [← hW3]; exact has_new _ _
  have hb3 : Below w2.heap.size w2 W3 := by rw [← hW3]; exact kp_alloc (Below.refl _ _) _
  have c1 : W3.cell? ⟨w.heap.size, 1, none⟩ = some (.int .u8 0) := (Lib.cell_of_heap k3 1).trans rfl
  have f1 := Lib.frozen_of_heap k3 1
  have k4 := heap_set_at _ w.heap.size 1 _ _ _ (.int .u8 1) k3
  rw [show (dgA d90).setIfInBounds 1 (.int .u8 1) = dgA d91 from rfl] at k4
  have B3 : Below w.heap.size w (W3.setCell ⟨w.heap.size, 1, none⟩ (.int .u8 1)) := kp_set (kp_call B2.out hb3) (Nat.le_refl _)
  have hk4 : (W3.setCell ⟨w.heap.size, 1, none⟩ (.int .u8 1)).heap[w2.heap.size]? = some (.cells #[.slice A 256 c, .int .u64 3] 26) := has_set hk3 (by omega)
  have r1 : RB (W3.setCell ⟨w.heap.size, 1, none⟩ (.int .u8 1)) A 256 (keyN d90) :=
    ((O2.out.1.below hb3 (Nat.le_refl _)).kept (grown_one _ _ _ _) (.inr (fun e => by have := (O2.out.1.blk_lt e).1; omega))).rb
  have r2 : RB (W3.setCell ⟨w.heap.size, 1, none⟩ (.int .u8 1)) B 256 (sigN d90) :=
    ((O2.out.2.below hb3 (Nat.le_refl _)).kept (grown_one _ _ _ _) (.inr (fun e => by have := (O2.out.2.blk_lt e).1; omega))).rb
  have Z4 := Lib.hid (And.intro k4 (And.intro hk4 (And.intro r1 (And.intro r2 B3))))
  obtain ⟨g, hg⟩ : ∃ g, w2.heap.size = g := ⟨_, rfl⟩
  rw [hg] at Z4
  clear hW3 k3 hk3 hb3 k4 B3 hk4 r1 r2 K2 B2 O2 hlt2
  try rw [hg]
  clear hg
  go_upto_region 5 with (fail)
  refine wp_nm fun W5 hW5 => ?_
  have HZ : Hid (W5.heap[w.heap.size]? = some (.cells (dgA d91) 22) ∧ W5.heap[g]? = some (.cells #[.slice A 256 c, .int .u64 3] 26) ∧ RB W5 A 256 (keyN d90) ∧ RB W5 B 256 (sigN d90) ∧ Below w.heap.size w W5) := by rw [← hW5]; exact Z4.out
  clear Z4 hW5 c1 f1
  have SD := sound_any A 256 c 3 (keyN d90) W5 HZ.out.2.2.1 (HL.out.below' HZ.out.2.2.2.2) (by omega) (by omega)
  rw [sound3 d90 (by simp [d90])] at SD
  have SD := Lib.hid SD
  obtain ⟨e0, e1⟩ := cells_2 HZ.out.2.1
  have hi := Lib.hid (dgA_is d91 (by simp [d91])).info
  go_wp2_with fail
  refine SD.out.mono ?_
  rintro e w6 ⟨rfl, hb6⟩
  have K6 := Lib.hid (has_below HZ.out.1 hb6)
  obtain ⟨x0, x1⟩ := cells_2 (has_below HZ.out.2.1 hb6)
  have B6 := Lib.hid (kp_call HZ.out.2.2.2.2 hb6)
  have VE := verify_any A 256 c 3 (keyN d90) (dgA d91) d91 B 256 k (sigN d90) w6 (HL.out.below' B6.out) (HZ.out.2.2.1.below hb6) (by omega) (by omega) (dgA_is d91 (by simp [d91])) (HZ.out.2.2.2.1.below hb6) (by omega)
  rw [verB_for d90 d91 (by simp [d90]) (by simp [d91]), show decide (d90 = d91) = false by decide +kernel] at VE
  have VE := Lib.hid VE
  clear HZ e0 e1 SD hb6
  go_wp2_with (refine wpList_load_rowG rfl _ _ rfl w.heap.size rfl _ _ _ _ K6.out Tryd.underlying22 rfl hi.out ?_)
  refine VE.out.mono ?_
  rintro e w7 ⟨rfl, hb7⟩
  have B7 := Lib.hid (kp_call B6.out hb7)
  clear hb7 VE
  go_wp2
  go_ret
  exact ⟨rfl, B7.out⟩
set_option maxHeartbeats 4000000 in
/-- A signature of this digest is found right. -/
theorem alive_any (cs : Array Value) (d : List UInt8) (hd : IsDg cs d) (w : World) (hL : Lens w) : Calls Tryd.prog 9 #[.agg cs] w fun e w' => e = .returned (.bool true) ∧ Below w.heap.size w w' := by
  have HL := Lib.hid hL
  have HD := Lib.hid hd
  have HI := Lib.hid hd.info
  clear hL hd
  go_enter Tryd.func9, Tryd.ntmps9
  go_upto_region 1 with (fail)
  refine wp_nm fun W1 hW1 => ?_
  have HZ : Hid (W1.heap[w.heap.size]? = some (.cells cs 22) ∧ Below w.heap.size w W1) := by rw [← hW1]; exact ⟨has_new _ _, kp_alloc (Below.refl _ _) _⟩
  clear hW1
  go_wp2_with (refine wpList_load_row rfl _ _ rfl w.heap.size rfl _ _ _ _ HZ.out.1 Tryd.underlying22 rfl HI.out ?_)
  refine (for_any cs d HD.out W1).mono ?_
  rintro e w2 ⟨A, c, B, k, rfl, ho1, ho2, hb2⟩
  have K2 := Lib.hid (has_below HZ.out.1 hb2)
  have B2 := Lib.hid (kp_call HZ.out.2 hb2)
  have O2 := Lib.hid (And.intro ho1.rb ho2.rb)
  clear HZ ho1 ho2 hb2
  go_upto_region 2 with (fail)
  refine wp_nm fun W3 hW3 => ?_
  have hb3 : Below w2.heap.size w2 W3 := by rw [← hW3]; exact kp_alloc (Below.refl _ _) _
  have k3 := has_below K2.out hb3
  have hk3 : W3.heap[w2.heap.size]? = some (.cells #[.slice A 256 c, .int .u64 3] 26) := by rw [← hW3]; exact has_new _ _
  have VE := verify_any A 256 c 3 (keyN d) cs d B 256 k (sigN d) W3 (HL.out.below' (kp_call B2.out hb3)) (O2.out.1.below hb3) (by omega) (by omega) HD.out (O2.out.2.below hb3) (by omega)
  rw [verB_for d d HD.out.l HD.out.l, decide_eq_true rfl] at VE
  have VE := Lib.hid VE
  have K3 := Lib.hid k3
  have B3 := Lib.hid (kp_call B2.out hb3)
  obtain ⟨x0, x1⟩ := cells_2 hk3
  clear hW3 hb3 k3 hk3 K2 B2 O2
  go_wp2_with (refine wpList_load_row rfl _ _ rfl w.heap.size rfl _ _ _ _ K3.out Tryd.underlying22 rfl HI.out ?_)
  refine VE.out.mono ?_
  rintro e w4 ⟨rfl, hb4⟩
  have B4 := Lib.hid (kp_call B3.out hb4)
  clear hb4 VE K3 B3 x0 x1
  go_wp2_with fail
  refine (works6_any _ (HL.out.below' B4.out)).mono ?_
  rintro e w5 ⟨rfl, hb5⟩
  have B5 := Lib.hid (kp_call B4.out hb5)
  clear hb5
  go_wp2
  go_ret
  exact ⟨rfl, B5.out⟩
end Go.Proofs.YtbplchpbaonadaaDoor
