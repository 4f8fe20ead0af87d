/-
  bank: the law's twin and vast.
-/
import Derived.Test.YtkajlbdiofobcaaDoorBnR
namespace Go.Proofs.YtkajlbdiofobcaaDoor
open Go.RowKit Go
set_option linter.unusedVariables false
set_option linter.unusedSimpArgs false
set_option maxRecDepth 100000
theorem twin8_any (A : Option Addr) (n c : Nat) (bs : List UInt8) (w : World) (h : RB w A n bs) (hn : n ≤ 1000000000) :
    Calls Tryd.prog 18 #[.slice A n c] w (Fresh w bs) := by
  go_enter Tryd.func18, Tryd.ntmps18
  go_wp2_with (at_builtin; refine wpList_apn _ _ rfl rfl rfl w.heap.size (some ⟨w.heap.size, 0, none⟩) 0 0 [] rfl (own_nil w) A n c _ rfl (h.alloc _) (by omega) (by simp) ?_)
  intro A' c' w' hown hg
  go_wp2
  go_ret
  exact ⟨A', _, c', rfl, by simpa using hown, ((Below.refl _ _).alloc (Nat.le_refl _) _).grown hg (by simp) (by intro k hk; cases hk; exact Nat.le_refl _)⟩
/-- A thing that is done with a bank. -/
structure BOp where
  kd : Int
  np : Int
  pt : Int
  K : Option Addr
  kn : Nat
  kc : Nat
  V : Option Addr
  vn : Nat
  vc : Nat
  key : List UInt8
  val : List UInt8
/-- The slices' headers of a list of things done. -/
def OpsB (w : World) (A : Option Addr) (n : Nat) (os : Nat → BOp) : Prop := ∀ r, r < n → ∃ b off, A = some ⟨b, off, none⟩ ∧ b < w.heap.size ∧ w.cell? ⟨b, off + r * 5 + 3, none⟩ = some (.slice (os r).K (os r).kn (os r).kc) ∧ w.cell? ⟨b, off + r * 5 + 4, none⟩ = some (.slice (os r).V (os r).vn (os r).vc)
/-- What vast answers. -/
def Vast8 (sec size : Int) (n : Nat) (os : Nat → BOp) (w : World) (e : Ending) (w' : World) : Prop := ∃ v, e = .returned (.bool v) ∧ (v = false → n ≤ 80 ∧ sec ≤ 8 ∧ size ≤ 2048 ∧ ∀ r, r < n → (os r).kn ≤ 131072 ∧ (os r).vn ≤ 131072) ∧ Below w.heap.size w w'
set_option maxHeartbeats 4000000 in
theorem vast8_any (sec size fi co : Int) (A : Option Addr) (n c : Nat) (os : Nat → BOp) (w : World) (hR : OpsB w A n os) :
    Calls Tryd.prog 9 #[.agg #[.int .i64 sec, .int .i64 size, .int .i64 fi, .int .i64 co], .slice A n c] w (Vast8 sec size n os w) := by
  have HR := Lib.hid hR
  clear hR
  have HB0 : Hid (Below w.heap.size w (w.alloc (.cells #[.int .i64 sec, .int .i64 size, .int .i64 fi, .int .i64 co] 27))) := kp_alloc (Below.refl _ _) _
  by_cases a1 : 80 < n
  · have p1 : decide ((n : Int) > 80) = true := decide_eq_true (by omega)
    clear HR
    go_enter Tryd.func9, Tryd.ntmps9
    go_wp2
    go_ret
    exact ⟨true, rfl, by simp, HB0.out⟩
  have p1 : decide ((n : Int) > 80) = false := decide_eq_false (by omega)
  have q1 : decide (80 < n) = false := decide_eq_false a1
  by_cases a2 : 8 < sec
  · have p2 : decide (sec > 8) = true := decide_eq_true (by omega)
    clear HR
    go_enter Tryd.func9, Tryd.ntmps9
    go_wp2
    go_ret
    exact ⟨true, rfl, by simp, HB0.out⟩
  have p2 : decide (sec > 8) = false := decide_eq_false (by omega)
  by_cases a3 : 2048 < size
  · have p3 : decide (size > 2048) = true := decide_eq_true (by omega)
    clear HR
    go_enter Tryd.func9, Tryd.ntmps9
    go_wp2
    go_ret
    exact ⟨true, rfl, by simp, HB0.out⟩
  have p3 : decide (size > 2048) = false := decide_eq_false (by omega)
  have GO : Hid (n ≤ 80 ∧ sec ≤ 8 ∧ size ≤ 2048) := ⟨by omega, by omega, by omega⟩
  clear a1 a2 a3
  go_enter Tryd.func9, Tryd.ntmps9
  go_wp2_with fail
  go_loopw [5, 6] (fun v vi wl => ∃ (i s : Nat), v = .int .i64 (s : Int) ∧ vi = .int .i64 (i : Int) ∧ i ≤ n ∧ s ≤ 131072 ∧ Hid ((∀ r, r < i → (os r).kn ≤ 131072 ∧ (os r).vn ≤ 131072) ∧ Below w.heap.size w wl)) (fun _ vi _ => n - (intOf vi).toNat)
  case atStart => exact ⟨0, 0, rfl, rfl, Nat.zero_le _, Nat.zero_le _, fun r hr => absurd hr (Nat.not_lt_zero _), HB0.out⟩
  case round =>
    obtain ⟨i, s, rfl, rfl, hi, hs, HN⟩ := hrel
    clear p1 p2 p3 q1
    by_cases hlt : i < n
    · obtain ⟨b, off, rfl, hb, hc, hd⟩ := HR.out i hlt
      have hc' := kp_cell HN.out.2 hc
      have hd' := kp_cell HN.out.2 hd
      clear hc hd hb
      obtain ⟨kn, hkn⟩ : ∃ kn, (os i).kn = kn := ⟨_, rfl⟩
      obtain ⟨vn, hvn⟩ : ∃ vn, (os i).vn = vn := ⟨_, rfl⟩
      rw [hkn] at hc'
      rw [hvn] at hd'
      have HKN := Lib.hid hkn
      have HVN := Lib.hid hvn
      clear hkn hvn
      have i1 : (i : Int) < (n : Int) := by omega
      have i0 : (0 : Int) ≤ (i : Int) := by omega
      have hn80 := GO.out.1
      have e3 : IntKind.i64.wrap ((i : Int) + 1) = (i : Int) + 1 := IntWalk.i64_in _ (by omega)
      obtain ⟨km, hkm, hkm2⟩ : ∃ km : Nat, km = (if 262144 < kn then 262144 else kn) ∧ km ≤ 262144 := ⟨_, rfl, by split <;> omega⟩
      obtain ⟨vm, hvm, hvm2⟩ : ∃ vm : Nat, vm = (if 262144 < vn then 262144 else vn) ∧ vm ≤ 262144 := ⟨_, rfl, by split <;> omega⟩
      have w1 : (if (262144 : Int) < (kn : Int) then (262144 : Int) else (kn : Int)) = (km : Int) := by rw [hkm]; split <;> split <;> omega
      have w2 : (if (262144 : Int) < (vn : Int) then (262144 : Int) else (vn : Int)) = (vm : Int) := by rw [hvm]; split <;> split <;> omega
      obtain ⟨s1, hs1⟩ : ∃ s1, s + km = s1 := ⟨_, rfl⟩
      obtain ⟨s2, hs2⟩ : ∃ s2, s1 + vm = s2 := ⟨_, rfl⟩
      have e1 : IntKind.i64.wrap ((s : Int) + (km : Int)) = (s1 : Int) := by rw [IntWalk.i64_in _ (by omega)]; omega
      have e2 : IntKind.i64.wrap ((s1 : Int) + (vm : Int)) = (s2 : Int) := by rw [IntWalk.i64_in _ (by omega)]; omega
      have HM : Hid (s + km = s1 ∧ s1 + vm = s2 ∧ km = (if 262144 < kn then 262144 else kn) ∧ vm = (if 262144 < vn then 262144 else vn)) := ⟨hs1, hs2, hkm, hvm⟩
      clear hs1 hs2 hkm hvm
      by_cases hbig : 131072 < s2
      · have p9 : decide ((s2 : Int) > 131072) = true := decide_eq_true (by omega)
        have p8 : (131072 : Int) < (s2 : Int) := by omega
        have HBB := Lib.hid HN.out.2
        clear HN
        go_wp2_with fail
        go_quiet (fail)
        go_wp2
        go_ret
        exact ⟨true, rfl, by simp, kp_drewN HBB.out _⟩
      · have p9 : decide ((s2 : Int) > 131072) = false := decide_eq_false (by omega)
        have p8 : ¬ (131072 : Int) < (s2 : Int) := by omega
        have HN2 : Hid ((∀ r, r < i + 1 → (os r).kn ≤ 131072 ∧ (os r).vn ≤ 131072) ∧ Below w.heap.size w wr) := ⟨fun r hr => by
          rcases Nat.lt_or_ge r i with h | h
          · exact HN.out.1 r h
          · obtain rfl : r = i := by omega
            rw [HKN.out, HVN.out]
            obtain ⟨m1, m2, m3, m4⟩ := HM.out
            constructor
            · by_cases h9 : 262144 < kn
              · rw [if_pos h9] at m3; omega
              · rw [if_neg h9] at m3; omega
            · by_cases h9 : 262144 < vn
              · rw [if_pos h9] at m4; omega
              · rw [if_neg h9] at m4; omega, HN.out.2⟩
        clear HN
        go_wp2_with fail
        go_quiet (fail)
        go_wp2
        go_roundw
        case rel => exact ⟨i + 1, s2, rfl, by go_num, by omega, by omega, HN2.out.1, kp_drewN HN2.out.2 _⟩
        case measure => simp [intOf]; omega
    · have i1 : ¬ (i : Int) < (n : Int) := by omega
      obtain rfl : i = n := by omega
      go_wp2
      go_ret
      exact ⟨false, rfl, fun _ => ⟨GO.out.1, GO.out.2.1, GO.out.2.2, HN.out.1⟩, HN.out.2⟩
end Go.Proofs.YtkajlbdiofobcaaDoor
