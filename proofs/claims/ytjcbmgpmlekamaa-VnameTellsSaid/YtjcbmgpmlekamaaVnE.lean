/-
  vname: Key; Kind of a key of the nine; Fits of numbers; works.
-/
import Derived.Test.YtjcbmgpmlekamaaVnD
namespace Go.Proofs.Ytjcbmgpmlekamaa
open Go.RowKit Go
set_option linter.unusedVariables false
set_option linter.unusedSimpArgs false
set_option maxRecDepth 100000
theorem rb_blockV {w : World} {g : Nat} {cs : Array Value} {t : TypeId} {fr : Nat × Nat} {bs : List UInt8} {n : Nat} (hk : w.heap[g]? = some (.cells cs t fr)) (h : cs.toList = bs.map bv) (hn : bs.length = n) : RB w (some ⟨g, 0, none⟩) n bs := by
  refine ⟨hn, fun hne => ⟨g, 0, rfl, block_lt hk, fun k hk2 => ?_⟩⟩
  have h9 := Lib.cell_of_heap hk (0 + k)
  rw [h9]
  have h8 : cs[0 + k]? = some (bv bs[k]) := by
    rw [← Array.getElem?_toList, h, List.getElem?_map, Nat.zero_add, List.getElem?_eq_getElem hk2]
    rfl
  rw [h8]
theorem key_any (s : ByteArray) (hs : s.size ≤ 1000000000) (G : List UInt8) (hG : G.length = 16) (w : World) : Calls Try.prog 10 #[.string s, .agg (gv G)] w (KeyPost s G w) := by
  have RT := Lib.hid (fun W => right_any s hs W)
  have hgs : (gv G).size = 16 := by simp [gv, hG]
  have HG := Lib.hid hG
  have HS := Lib.hid hs
  obtain ⟨cs, hcs⟩ : ∃ cs, gv G = cs := ⟨_, rfl⟩
  have HCS : Hid (cs.toList = G.map bv) := by unfold Hid; rw [← hcs]; simp [gv]
  rw [hcs] at hgs ⊢
  clear hcs hG hs
  cases hr : rightL s.data.toList with
  | false =>
    rw [hr] at RT
    have HR := Lib.hid hr
    clear hr
    go_enter Try.func10, Try.ntmps10
    go_wp2_with fail
    refine (RT.out _).mono ?_
    rintro e w2 ⟨rfl, hw2⟩
    subst w2
    go_wp2
    go_ret2
    refine ⟨none, 0, 0, 1, rfl, ?_, ?_, kp_alloc (Below.refl _ _) _⟩
    · rw [HR.out]; exact OwnB.nil _ _
    · rw [HR.out]; rfl
  | true =>
    rw [hr] at RT
    have HR := Lib.hid hr
    have h1 : Hid (1 ≤ s.size) := by
      unfold rightL at hr
      rw [data_size] at hr
      have := (Bool.and_eq_true _ _ ▸ hr).1
      exact (of_decide_eq_true this).1
    clear hr
    go_enter Try.func10, Try.ntmps10
    go_wp2_with fail
    refine (RT.out _).mono ?_
    rintro e w2 ⟨rfl, hw2⟩
    subst w2
    have R0 : RB (w.alloc (.cells cs 23)) (some ⟨w.heap.size, 0, none⟩) 16 G := rb_blockV (has_new _ _) HCS.out HG.out
    go_wp2_with (at_builtin; refine wpList_apg _ _ rfl rfl rfl w.heap.size 16 G rfl R0 s rfl h1.out (by have := HS.out; omega) ?_)
    intro A' c' w' ho hb
    have hb1 : Below w.heap.size w w' := (kp_alloc (Below.refl _ _) (.cells cs 23)).trans (hb.mono (by omega))
    have FIN : Hid (KeyPost s G w (.returned (.tuple #[.slice A' (16 + s.size) c', .int .i64 0])) w') := ⟨A', _, c', 0, rfl, by rw [HR.out]; exact ho.lower (by simp), by rw [HR.out]; rfl, hb1⟩
    clear ho hb hb1 R0
    go_wp2
    go_ret2
    exact FIN.out
/-- Kind of one of the nine. -/
theorem kind_of (k : Nat) (hk : k < 9) (s : ByteArray) (cs : Array Value) (hs : cs.size = 16) (h : keyOf s cs = kindK k) (w : World) : Calls Try.prog 19 #[.string s, .agg cs] w fun e w' => e = .returned (kindV k) ∧ Below w.heap.size w w' :=
  kind_any s cs hs w (fun j => decide (j = k)) (kindV k) (fun j hj W => by rw [h]; exact eqK k j hk hj W) (fun W b => by rw [h]; exact ckK k hk W b) (.inl ⟨k, hk, by simp, fun i _ hi => by simpa using hi, rfl⟩)
theorem fits_a (w : World) : Calls Try.prog 21 #[.int .u8 3, .int .u32 39] w fun e w' => e = .returned (.int .i64 0) ∧ w' = w := by
  go_enter Try.func21, Try.ntmps21
  go_wp2
  go_ret
  exact ⟨rfl, rfl⟩
theorem fits_b (w : World) : Calls Try.prog 21 #[.int .u8 0, .int .u32 1] w fun e w' => e = .returned (.int .i64 1) ∧ w' = w := by
  go_enter Try.func21, Try.ntmps21
  go_wp2
  go_ret
  exact ⟨rfl, rfl⟩
def GLb : List UInt8 := [0x61, 0xdf, 0xe4, 0x8b, 0xca, 0x93, 0xd2, 0x11, 0xaa, 0x0d, 0x00, 0xe0, 0x98, 0x03, 0x2b, 0x8c]
def SLb : List UInt8 := [0xcb, 0xb2, 0x19, 0xd7, 0x3a, 0x3d, 0x96, 0x45, 0xa3, 0xbc, 0xda, 0xd0, 0x0e, 0x67, 0x65, 0x6f]
theorem gG_eq : gv GLb = gG := by kernel_rfl
theorem gS_eq : gv SLb = gS := by kernel_rfl
set_option maxHeartbeats 4000000 in
theorem works19_any (w : World) : Calls Try.prog 7 #[] w fun e w' => e = .returned (.bool true) ∧ Below w.heap.size w w' := by
  have KP := Lib.hid (fun W => key_any ⟨#[80, 75]⟩ (by decide) GLb rfl W)
  rw [gG_eq] at KP
  have hpk : rightL (⟨#[80, 75]⟩ : ByteArray).data.toList = true := by kernel_rfl
  have K0 := Lib.hid (fun W => kind_of 0 (by decide) ⟨#[80, 75]⟩ gG (by kernel_rfl) (by kernel_rfl) W)
  have K6 := Lib.hid (fun W => kind_of 6 (by decide) ⟨#[100, 98]⟩ gS (by kernel_rfl) (by kernel_rfl) W)
  have HPK := Lib.hid hpk
  clear hpk
  go_enter Try.func7, Try.ntmps7
  go_wp2_with fail
  refine (global_any _).mono ?_
  rintro e w1 ⟨rfl, hb1⟩
  go_wp2_with fail
  refine (KP.out _).mono ?_
  rintro e w2 ⟨A, n, c, r, rfl, ho, hr, hb2⟩
  rw [HPK.out] at ho hr
  simp only [if_true] at ho hr
  subst hr
  obtain rfl : 18 = n := ho.len
  obtain ⟨g, rfl, hg1, hg2⟩ := ho.shape (by have := ho.cap.1; omega)
  have c17 : w2.cell? ⟨g, 17, none⟩ = some (.int .u8 75) := ho.cellAt 17 75 rfl
  have HB2 := Lib.hid (kp_call hb1 hb2)
  have hcap := ho.cap.1
  clear ho hb1 hb2
  go_wp2_with fail
  refine (global_any _).mono ?_
  rintro e w3 ⟨rfl, hb3⟩
  go_wp2_with fail
  refine (K0.out _).mono ?_
  rintro e w4 ⟨rfl, hb4⟩
  have HB4 := Lib.hid (kp_call (kp_call HB2.out hb3) hb4)
  rw [show kindV 0 = .int .u8 1 from rfl]
  clear hb3 hb4 c17
  go_wp2_with fail
  refine (security_any _).mono ?_
  rintro e w5 ⟨rfl, hb5⟩
  go_wp2_with fail
  refine (K6.out _).mono ?_
  rintro e w6 ⟨rfl, hb6⟩
  have HB6 := Lib.hid (kp_call (kp_call HB4.out hb5) hb6)
  rw [show kindV 6 = .int .u8 3 from rfl]
  clear hb5 hb6
  go_wp2_with fail
  refine (fits_a _).mono ?_
  rintro e w7 ⟨rfl, hw7⟩
  subst w7
  go_wp2_with fail
  refine (fits_b _).mono ?_
  rintro e w8 ⟨rfl, hw8⟩
  subst w8
  go_wp2
  go_ret
  exact ⟨rfl, HB6.out⟩
end Go.Proofs.Ytjcbmgpmlekamaa
