/-
  der: the statement on small arcs.
-/
import Derived.Test.YtlkiobngafjeiaaDrWk
namespace Go.Proofs.Ytlkiobngafjeiaa
open Go.RowKit Go
set_option linter.unusedVariables false
set_option maxRecDepth 100000
def m7 (d : UInt8) : Nat := d.toNat % 128
def m7b (d : UInt8) : UInt8 := UInt8.ofNat (d.toNat % 128)
theorem m7b_num (d : UInt8) : (m7b d).toNat = d.toNat % 128 := by unfold m7b; rw [UInt8.toNat_ofNat']; omega
theorem m7u (d : UInt8) : Value.int .u64 ((m7b d).toNat : Int) = u64v (m7 d) := by rw [m7b_num]; rfl
theorem sev_m7 (l : List UInt8) : (l.map m7).flatMap sev = l.map m7b := by
  induction l with
  | nil => rfl
  | cons d r ih =>
    simp only [List.map_cons, List.flatMap_cons, ih]
    rw [sev_small (show m7 d < 128 by unfold m7; omega)]
    rfl
theorem numQ_small (d : UInt8) (r : List UInt8) (h : d.toNat < 128) : numQ (d :: r) = some (d.toNat, 1) := by
  unfold numQ
  rw [numG_cons, if_neg (by omega), if_pos h]
  simp
theorem numsQ_small (l : List UInt8) (h : ∀ d ∈ l, d.toNat < 128) : numsQ l = some (l.map UInt8.toNat) := by
  induction l with
  | nil => exact numsQ_nil
  | cons d r ih =>
    rw [numsQ_some (numQ_small d r (h d (by simp)))]
    show (numsQ r).map _ = _
    rw [ih (fun x hx => h x (by simp [hx]))]
    rfl
theorem want_put (a b : Nat) (ha : a < 3) (hb : b < 40) (l : List UInt8) : putoidQ (a :: b :: l.map m7) = UInt8.ofNat (40 * a + b) :: l.map m7b := by
  simp only [putoidQ]
  rw [if_neg (by omega), sev_m7, sev_small (by omega)]
  rfl
theorem want_oid (a b : Nat) (ha : a < 3) (hb : b < 40) (l : List UInt8) : oidQ (UInt8.ofNat (40 * a + b) :: l.map m7b) = some (a :: b :: l.map m7) := by
  have hn : (UInt8.ofNat (40 * a + b)).toNat = 40 * a + b := by rw [UInt8.toNat_ofNat']; omega
  unfold oidQ
  rw [numsQ_small]
  · simp only [List.map_cons, List.map_map, hn]
    show some (arcs _) = _
    simp only [arcs]
    congr 2
    · omega
    · congr 1
      · omega
      · apply List.map_congr_left
        intro x _
        exact m7b_num x
  · intro d hd
    rcases List.mem_cons.1 hd with rfl | hd
    · omega
    · obtain ⟨x, _, rfl⟩ := List.mem_map.1 hd
      rw [m7b_num]; omega
theorem u8_u64 : 5 ≠ 70 := by decide
theorem small_big (f s : Int) (A : Option Addr) (n c : Nat) (w : World) (hb : 200 < n) :
    Calls Try.prog 18 #[.int .u8 f, .int .u8 s, .slice A n c] w fun e w' => e = .returned (.bool true) ∧ Below w.heap.size w w' := by
  have W := Lib.hid (works_any w)
  have hd : decide ((200 : Int) < (n : Int)) = true := by simp; omega
  go_enter Try.func18, Try.ntmps18
  go_wp2_with fail
  refine W.out.mono ?_
  rintro e w' ⟨rfl, hb⟩
  go_wp2
  go_ret
  exact ⟨rfl, hb⟩
set_option maxHeartbeats 1000000 in
theorem small_go (f s : UInt8) (A : Option Addr) (n c : Nat) (l : List UInt8) (w : World) (hR : RB w A n l) (hn : n ≤ 200) :
    Calls Try.prog 18 #[.int .u8 (f.toNat : Int), .int .u8 (s.toNat : Int), .slice A n c] w fun e w' => e = .returned (.bool true) ∧ Below w.heap.size w w' := by
  have W := Lib.hid (fun W => works_any W)
  have hd : decide ((200 : Int) < (n : Int)) = false := by simp; omega
  obtain ⟨a, ha⟩ : ∃ a : Nat, f.toNat % 3 = a := ⟨_, rfl⟩
  obtain ⟨b, hb⟩ : ∃ b : Nat, s.toNat % 40 = b := ⟨_, rfl⟩
  have ha2 : (f.toNat : Int) % 3 = (a : Int) := by omega
  have hb2 : (s.toNat : Int) % 40 = (b : Int) := by omega
  have ha3 : a < 3 := by omega
  have hb3 : b < 40 := by omega
  have HP := Lib.hid (want_put a b ha3 hb3 l)
  have HO := Lib.hid (want_oid a b ha3 hb3 l)
  obtain ⟨q, hq⟩ : ∃ q : UInt8, UInt8.ofNat (40 * a + b) = q := ⟨_, rfl⟩
  have hq2 : (40 : Int) * (a : Int) + (b : Int) = (q.toNat : Int) := by rw [← hq, UInt8.toNat_ofNat']; omega
  rw [hq] at HP HO
  have HR := Lib.hid hR
  have HM := Lib.hid (fun d : UInt8 => (show (d.toNat : Int) % 128 = ((m7b d).toNat : Int) by rw [m7b_num]; omega))
  have HA := Lib.hid ha3
  have HB := Lib.hid hb3
  have m0 : IntKind.u8.wrap ((40 : Int) * (a : Int)) = (40 : Int) * (a : Int) := by rw [IntKind.wrap_u8]; omega
  have m1 : IntKind.u8.wrap ((40 : Int) * (a : Int) + (b : Int)) = (q.toNat : Int) := by rw [IntKind.wrap_u8]; have := q.toNat_lt; omega
  have hqw : IntKind.u8.wrap (q.toNat : Int) = (q.toNat : Int) := by rw [IntKind.wrap_u8]; have := q.toNat_lt; omega
  clear ha hb hR hq ha3 hb3
  go_enter Try.func18, Try.ntmps18
  go_wp2
  clear m0 m1 hqw hq2 ha2 hb2
  go_loopw [7, 8, 9] (fun r v i wl => ∃ (j : Nat) (A1 A2 : Option Addr) (c1 c2 : Nat), j ≤ n ∧ r = .slice A1 (2 + j) c1 ∧ v = .slice A2 (1 + j) c2 ∧ i = .int .i64 (j : Int) ∧ OwnR wl w.heap.size 70 1 A1 (2 + j) c1 ((a :: b :: (l.take j).map m7).map u64v) ∧ OwnB wl w.heap.size A2 (1 + j) c2 (q :: (l.take j).map m7b) ∧ Below w.heap.size w wl) (fun _ _ i _ => n - (intOf i).toNat)
  case atStart =>
    refine ⟨0, _, _, _, _, Nat.zero_le _, rfl, rfl, rfl, (OwnR.lit w 70 1 #[.int .u64 (a : Int), .int .u64 (b : Int)] 2 (by unfold maxLen; omega) rfl).alloc _, ?_, ((Below.refl _ _).alloc (Nat.le_refl _) _).alloc (by simp) _⟩
    have := own_lit (w.alloc (.cells #[.int .u64 (a : Int), .int .u64 (b : Int)] 70)) [q] 1 #[.int .u8 (q.toNat : Int)] rfl rfl (by omega)
    have h2 := this.lower (base' := w.heap.size) (by simp)
    simpa using h2
  case round =>
    obtain ⟨j, A1, A2, c1, c2, hj, rfl, rfl, rfl, hown, hob, hbl⟩ := hrel
    have hsz := hbl.size
    by_cases hlt : j < n
    · obtain ⟨bb, off, d, rfl, hbb, hd, c0⟩ := (HR.out.below hbl).at_ hlt
      have hm := HM.out d
      have HT : Hid (l.take (j + 1) = l.take j ++ [d]) := by unfold Hid; rw [List.take_add_one, hd]; rfl
      have HD := Lib.hid hd
      have hmw : IntKind.u64.wrap ((m7b d).toNat : Int) = ((m7b d).toNat : Int) := by rw [IntKind.wrap_u64]; have := (m7b d).toNat_lt; omega
      clear hd
      go_wp2_with (at_builtin; refine wpList_appL u64_row _ _ rfl rfl rfl w.heap.size A1 (2 + j) c1 _ rfl (hown.alloc _) _ 1 1 #[.int .u64 ((m7b d).toNat : Int)] (0, 0) rfl (heap_alloc_new _ _) rfl (by intro u hu; simp at hu; subst hu; rfl) (by unfold maxLen; omega) (by omega) (by simp; omega) ?_)
      intro A3 c3 w3 hown3 hg3
      have hbl3 : Below w.heap.size w w3 := (hbl.alloc hsz _).grown hg3 (by simp; omega) (fun g hg => (hown.blk_lt hg).1)
      have ha1 := hob.alloc (.cells #[.int .u64 ((m7b d).toNat : Int)] 70)
      have ha2 := hown.alloc (.cells #[.int .u64 ((m7b d).toNat : Int)] 70)
      have hob3 := ha1.kept hg3 (OwnR.ne ha1.row ha2 u8_u64)
      clear ha1 ha2
      obtain ⟨bb', off', d', e', hbb', hd', c3'⟩ := (HR.out.below hbl3).at_ hlt
      cases e'
      rw [HD.out] at hd'
      cases hd'
      clear c0
      have hsz3 := hbl3.size
      go_wp2_with (at_builtin; refine wpList_apn _ _ rfl rfl rfl w.heap.size A2 (1 + j) c2 _ rfl (hob3.alloc _) (some ⟨w3.heap.size, 0, none⟩) 1 1 [m7b d] rfl (own_lit w3 [m7b d] 1 _ rfl rfl (by omega)).rb (by omega) (by simp; omega) ?_)
      intro A4 c4 w4 hob4 hg4
      have hbl4 : Below w.heap.size w w4 := (hbl3.alloc hsz3 _).grown hg4 (by simp; omega) (fun g hg => (hob.blk_lt hg).1)
      have ha1 := hown3.alloc (.cells #[.int .u8 ((m7b d).toNat : Int)] 5)
      have ha2 := hob3.alloc (.cells #[.int .u8 ((m7b d).toNat : Int)] 5)
      have hown4 := ha1.kept hg4 (OwnR.ne ha1 ha2.row (fun h => u8_u64 h.symm))
      have HO4 := Lib.hid hown4
      have HB4 := Lib.hid hob4
      clear ha1 ha2 hown4 hob4 hown3 hob3
      go_wp2
      go_roundw
      case rel => exact ⟨j + 1, A3, A4, c3, c4, by omega, rfl, rfl, by go_num, by rw [HT.out]; simpa [List.map_take, Nat.add_assoc, m7u d] using HO4.out, by rw [HT.out]; simpa [List.map_take, Nat.add_assoc] using HB4.out, hbl4⟩
      case measure => simp [intOf]; omega
    · obtain rfl : j = n := by omega
      have HT : Hid (l.take j = l) := by unfold Hid; rw [List.take_of_length_le (by rw [HR.out.1]; exact Nat.le_refl _)]
      rw [HT.out] at hown hob
      have hRN : RN wr A1 (2 + j) (a :: b :: l.map m7) := ⟨by have := HR.out.1; simp; omega, hown.reads, fun k x hx => by
        have := List.mem_of_getElem? hx
        simp at this
        rcases this with rfl | rfl | ⟨y, _, rfl⟩
        · have := HA.out; omega
        · have := HB.out; omega
        · unfold m7; omega⟩
      have PO := Lib.hid (putoid_any A1 (2 + j) c1 _ wr hRN hown.cap.1 (by omega) (by have := hown.cap.2; unfold maxLen at this; omega))
      have HRN := Lib.hid hRN
      rw [HP.out] at PO
      clear hRN
      go_wp2_with fail
      refine PO.out.mono ?_
      rintro e w5 ⟨A5, n5, c5, rfl, hob5, hb5⟩
      have hob' := hob.below hb5 (Nat.le_refl _)
      have HO5 := Lib.hid hob5
      have OI := Lib.hid (oid_any A2 (1 + j) c2 _ w5 hob'.rb hob'.cap.1 (by omega) (by have := hob'.cap.2; unfold maxLen at this; omega))
      have HOB := Lib.hid hob'
      clear hob' hob5
      go_wp2_with fail
      refine OI.out.mono ?_
      rintro e w6 h6
      unfold OidPost at h6
      rw [HO.out] at h6
      obtain ⟨⟨A6, n6, c6, rfl, ho6⟩, hb6⟩ := h6
      have hle6 : (a :: b :: l.map m7).length = n6 := by have := ho6.len; simpa using this
      have EQ := Lib.hid (eq_any A5 A2 n5 (1 + j) c5 c2 _ _ w6 (HO5.out.below hb6 (Nat.le_refl _)).rb (HOB.out.below hb6 (Nat.le_refl _)).rb)
      have hE : ((q :: l.map m7b) == (q :: l.map m7b)) = true := by simp
      have HR6 : RN w6 A6 n6 (a :: b :: l.map m7) := ⟨hle6, ho6.reads, HRN.out.lt⟩
      have HR1 := (HRN.out.below hb5 (Nat.le_refl _)).below hb6 (Nat.le_refl _)
      have EN := Lib.hid (eqn_any A6 A1 n6 (2 + j) c6 c1 _ _ w6 HR6 HR1 (by rw [← hle6, HRN.out.1]; omega) (by omega))
      have hE2 : ((a :: b :: l.map m7) == (a :: b :: l.map m7)) = true := by simp
      rw [hE] at EQ
      rw [hE2] at EN
      have HB6 := Lib.hid (kp_call (kp_call hbl hb5) hb6)
      clear HR6 HR1 hE hE2 ho6 hle6 hb5 hb6 hown hob
      go_wp2_with (first | (go_at_call 27; (with_reducible refine EQ.out.mono ?_); rintro e w' ⟨rfl, rfl⟩) | (go_at_call 51; (with_reducible refine EN.out.mono ?_); rintro e w' ⟨rfl, k, rfl⟩) | (go_at_call 22; (with_reducible refine (W.out _).mono ?_); rintro e w' ⟨rfl, hb7⟩))
      go_ret
      exact ⟨rfl, kp_call (kp_drewN HB6.out k) hb7⟩
theorem small_row (a0 a1 : Int) (A : Option Addr) (n c : Nat) (bs : List UInt8) (w : World) (wf0 : (Lit.int .u8 a0).wf = true) (wf1 : (Lit.int .u8 a1).wf = true) (h : IsBs w A n c bs) :
    Calls Try.prog 18 #[.int .u8 a0, .int .u8 a1, .slice A n c] w fun e w' => e = .returned (.bool true) ∧ Below w.heap.size w w' := by
  by_cases hb : 200 < n
  · exact small_big a0 a1 A n c w hb
  have wf0 := bounds_u8 wf0
  have wf1 := bounds_u8 wf1
  have e0 : a0 = ((UInt8.ofNat a0.toNat).toNat : Int) := by rw [UInt8.toNat_ofNat']; omega
  have e1 : a1 = ((UInt8.ofNat a1.toNat).toNat : Int) := by rw [UInt8.toNat_ofNat']; omega
  rw [e0, e1]
  exact small_go _ _ A n c bs w h.rb (by omega)
end Go.Proofs.Ytlkiobngafjeiaa
