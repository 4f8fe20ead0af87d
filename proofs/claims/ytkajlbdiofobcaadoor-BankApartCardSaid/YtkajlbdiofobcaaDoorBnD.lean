/-
  bank: a bank in memory; what it is asked for its sizes; its bytes.
-/
import Derived.Test.YtkajlbdiofobcaaDoorBnC
import Derived.Test.YtkajlbdiofobcaaDoorCrcN1
namespace Go.Proofs.YtkajlbdiofobcaaDoor
open Go.RowKit Go
set_option linter.unusedVariables false
set_option linter.unusedSimpArgs false
set_option maxRecDepth 100000
/-- The tables that the text lays. -/
structure Tabs (w : World) : Prop where
  crc : Tab w
  oct : Sizes w
theorem Tabs.below {w w' : World} (h : Tabs w) (hb : Below w.heap.size w w') : Tabs w' := ⟨h.crc.below hb h.crc.1, h.oct.below' hb⟩
theorem Tabs.below0 {v w w' : World} (h : Tabs v) (h0 : v.heap.size ≤ w.heap.size) (hb : Below v.heap.size v w') : Tabs w' := ⟨h.crc.below hb h.crc.1, h.oct.below' hb⟩
theorem Tabs.drewN {w : World} (h : Tabs w) (k : Nat) : Tabs (w.drewN k) := h.below (kp_drewN (Below.refl _ _) k)
theorem Tabs.alloc {w : World} (h : Tabs w) (o : Obj) : Tabs (w.alloc o) := h.below (kp_alloc (Below.refl _ _) o)
/-- The bank in block b: C sectors from the sector F on of the flash S. -/
structure BK (w : World) (base b g a c : Nat) (S : FS) (F C : Nat) : Prop where
  bk : w.heap[b]? = some (.cells #[.pointer (some ⟨g, 0, none⟩), .int .i64 (F : Int), .int .i64 (C : Int)] 74)
  fl : FL w base g a c S
  c1 : 1 ≤ C
  fc : F + C ≤ S.n
  cs : 64 ≤ C * S.s
  bb : base ≤ b
  bg : b ≠ g
  ba : b ≠ a
section
variable {w w' : World} {base b g a c F C : Nat} {S : FS}
theorem BK.alt (h : BK w base b g a c S F C) : b < w.heap.size := block_lt h.bk
theorem BK.below (h : BK w base b g a c S F C) (hb : Below w.heap.size w w') : BK w' base b g a c S F C := ⟨has_below h.bk hb, h.fl.below hb, h.c1, h.fc, h.cs, h.bb, h.bg, h.ba⟩
theorem BK.alloc (h : BK w base b g a c S F C) (o : Obj) : BK (w.alloc o) base b g a c S F C := h.below (kp_alloc (Below.refl _ _) o)
theorem BK.drewN (h : BK w base b g a c S F C) (k : Nat) : BK (w.drewN k) base b g a c S F C := h.below (kp_drewN (Below.refl _ _) k)
theorem BK.drew (h : BK w base b g a c S F C) : BK w.drew base b g a c S F C := h.below (kp_drew (Below.refl _ _))
/-- The flash beneath is another one now. -/
theorem BK.next (h : BK w base b g a c S F C) {T : FS} (hf : FL w' base g a c T) (h1 : T.n = S.n) (h2 : T.s = S.s) (hfar : Far g a w w') : BK w' base b g a c T F C :=
  ⟨hfar.has h.bk h.bg h.ba, hf, h.c1, by rw [h1]; exact h.fc, by rw [h2]; exact h.cs, h.bb, h.bg, h.ba⟩
/-- Where it begins, and how long it is. -/
theorem BK.in_ (h : BK w base b g a c S F C) : F * S.s + C * S.s ≤ S.n * S.s := by
  have := Nat.mul_le_mul_right S.s h.fc
  rwa [Nat.add_mul] at this
theorem BK.bytes (h : BK w base b g a c S F C) : S.bs.length = S.n * S.s := h.fl.len
end
/-- The bank's bytes. -/
def FS.bank (S : FS) (F C : Nat) : List UInt8 := (S.bs.drop (F * S.s)).take (C * S.s)
theorem bank_len {w : World} {base b g a c F C : Nat} {S : FS} (h : BK w base b g a c S F C) : (S.bank F C).length = C * S.s := by
  have h1 := h.in_
  have h2 := h.bytes
  unfold FS.bank
  rw [List.length_take, List.length_drop]
  omega
theorem bank_cut (S : FS) (F C at_ n : Nat) (h : at_ + n ≤ C * S.s) : (S.bs.drop (F * S.s + at_)).take n = cut (S.bank F C) at_ n := by
  unfold FS.bank cut
  rw [List.drop_take, List.take_take, List.drop_drop, Nat.min_eq_left (by omega)]
theorem cut_take (L : List UInt8) (m a k : Nat) (h : a + k ≤ m) : cut (L.take m) a k = cut L a k := by
  unfold cut
  rw [List.drop_take, List.take_take, Nat.min_eq_left (by omega)]
theorem cut_drop (L : List UInt8) (m a k : Nat) : cut (L.drop m) a k = cut L (m + a) k := by
  unfold cut; rw [List.drop_drop]
section
variable {w : World} {base b g a c F C : Nat} {S : FS}
theorem need_any (k v : Nat) (hk : k ≤ 1000000000) (hv : v ≤ 1000000000) (w : World) :
    Calls Tryd.prog 25 #[.int .i64 (k : Int), .int .i64 (v : Int)] w fun e w' => e = .returned (.int .i64 ((12 + k + v : Nat) : Int)) ∧ w' = w := by
  have e1 : IntKind.i64.wrap (12 + (k : Int)) = 12 + (k : Int) := IntWalk.i64_in _ (by omega)
  have e2 : IntKind.i64.wrap (12 + (k : Int) + (v : Int)) = ((12 + k + v : Nat) : Int) := by rw [IntWalk.i64_in _ (by omega)]; omega
  go_enter Tryd.func25, Tryd.ntmps25
  go_wp2
  go_ret
  exact ⟨rfl, rfl⟩
theorem lfit_any (k v : Int) (w : World) :
    Calls Tryd.prog 37 #[.int .i64 k, .int .i64 v] w fun e w' => e = .returned (.bool (decide (1 ≤ k ∧ k ≤ 255 ∧ v ≤ 65536))) ∧ w' = w := by
  by_cases h1 : 1 ≤ k
  · have p1 : decide (k ≥ 1) = true := decide_eq_true h1
    by_cases h2 : k ≤ 255
    · have p2 : decide (k ≤ 255) = true := decide_eq_true h2
      by_cases h3 : v ≤ 65536
      · have p3 : decide (v ≤ 65536) = true := decide_eq_true h3
        have hr : decide (1 ≤ k ∧ k ≤ 255 ∧ v ≤ 65536) = true := decide_eq_true ⟨h1, h2, h3⟩
        rw [hr]
        clear hr
        go_enter Tryd.func37, Tryd.ntmps37
        go_wp2
        go_ret
        exact ⟨rfl, rfl⟩
      · have p3 : decide (v ≤ 65536) = false := decide_eq_false h3
        have hr : decide (1 ≤ k ∧ k ≤ 255 ∧ v ≤ 65536) = false := decide_eq_false (fun h => h3 h.2.2)
        rw [hr]
        clear hr
        go_enter Tryd.func37, Tryd.ntmps37
        go_wp2
        go_ret
        exact ⟨rfl, rfl⟩
    · have p2 : decide (k ≤ 255) = false := decide_eq_false h2
      have hr : decide (1 ≤ k ∧ k ≤ 255 ∧ v ≤ 65536) = false := decide_eq_false (fun h => h2 h.2.1)
      rw [hr]
      clear hr
      go_enter Tryd.func37, Tryd.ntmps37
      go_wp2
      go_ret
      exact ⟨rfl, rfl⟩
  · have p1 : decide (k ≥ 1) = false := decide_eq_false h1
    have hr : decide (1 ≤ k ∧ k ≤ 255 ∧ v ≤ 65536) = false := decide_eq_false (fun h => h1 h.1)
    rw [hr]
    clear hr
    go_enter Tryd.func37, Tryd.ntmps37
    go_wp2
    go_ret
    exact ⟨rfl, rfl⟩
theorem start_any (h : BK w base b g a c S F C) : Calls Tryd.prog 39 #[.pointer (some ⟨b, 0, none⟩)] w fun e w' => e = .returned (.int .i64 ((F * S.s : Nat) : Int)) ∧ Below w.heap.size w w' := by
  obtain ⟨k0, k1, k2⟩ := cells_3 h.bk
  have FZ := Lib.hid (fun k => fsize_any (h.fl.drewN k))
  have e1 : IntKind.i64.wrap ((F : Int) * (S.s : Int)) = ((F * S.s : Nat) : Int) := by
    have := h.fl.big
    have := h.in_
    rw [← Int.natCast_mul, IntKind.wrap_i64]; omega
  generalize F * S.s = M at *
  clear h
  go_enter Tryd.func39, Tryd.ntmps39
  go_wp2
  go_quiet ((go_at_call 32; (with_reducible exact Calls.quiet_of_same (FZ.out _))))
  go_wp2
  go_ret
  exact ⟨rfl, kp_drewN (Below.refl _ _) _⟩
theorem bsize_any (h : BK w base b g a c S F C) : Calls Tryd.prog 35 #[.pointer (some ⟨b, 0, none⟩)] w fun e w' => e = .returned (.int .i64 ((C * S.s : Nat) : Int)) ∧ Below w.heap.size w w' := by
  obtain ⟨k0, k1, k2⟩ := cells_3 h.bk
  have FZ := Lib.hid (fun k => fsize_any (h.fl.drewN k))
  have e1 : IntKind.i64.wrap ((C : Int) * (S.s : Int)) = ((C * S.s : Nat) : Int) := by
    have := h.fl.big
    have := h.in_
    rw [← Int.natCast_mul, IntKind.wrap_i64]; omega
  generalize C * S.s = M at *
  clear h
  go_enter Tryd.func35, Tryd.ntmps35
  go_wp2
  go_quiet ((go_at_call 32; (with_reducible exact Calls.quiet_of_same (FZ.out _))))
  go_wp2
  go_ret
  exact ⟨rfl, kp_drewN (Below.refl _ _) _⟩
theorem room_any (h : BK w base b g a c S F C) : Calls Tryd.prog 13 #[.pointer (some ⟨b, 0, none⟩)] w fun e w' => e = .returned (.int .i64 ((C * S.s - 16 : Nat) : Int)) ∧ Below w.heap.size w w' := by
  have SZ := Lib.hid (bsize_any h)
  have hb := h.fl.big
  have hi := h.in_
  have hc := h.cs
  generalize C * S.s = M at *
  have e1 : IntKind.i64.wrap ((M : Int) - 16) = ((M - 16 : Nat) : Int) := by rw [IntWalk.i64_in _ (by omega)]; omega
  clear h
  go_enter Tryd.func13, Tryd.ntmps13
  go_wp2_with fail
  refine SZ.out.mono ?_
  rintro e w1 ⟨rfl, hb1⟩
  go_wp2
  go_ret
  exact ⟨rfl, hb1⟩
theorem roomnil_any (w : World) : Calls Tryd.prog 13 #[.pointer none] w fun e w' => e = .returned (.int .i64 0) ∧ w' = w := by
  go_enter Tryd.func13, Tryd.ntmps13
  go_wp2
  go_ret
  exact ⟨rfl, rfl⟩
theorem atnil_any (F C : Int) (w : World) : Calls Tryd.prog 11 #[.pointer none, .int .i64 F, .int .i64 C] w fun e w' => e = .returned (.tuple #[.pointer none, .int .i64 2]) ∧ w' = w := by
  go_enter Tryd.func11, Tryd.ntmps11
  go_wp2
  go_ret2
  exact ⟨rfl, rfl⟩
theorem at_any (h : FL w base g a c S) (h1 : 1 ≤ C) (h2 : F + C ≤ S.n) (h3 : 64 ≤ C * S.s) :
    Calls Tryd.prog 11 #[.pointer (some ⟨g, 0, none⟩), .int .i64 (F : Int), .int .i64 (C : Int)] w fun e w' => ∃ b, e = .returned (.tuple #[.pointer (some ⟨b, 0, none⟩), .int .i64 0]) ∧ BK w' base b g a c S F C ∧ w.heap.size ≤ b ∧ Below w.heap.size w w' := by
  have H := Lib.hid h
  have SC := Lib.hid (fun W (hb : Below w.heap.size w W) => fsectors_any (h.below hb))
  have SZ := Lib.hid (fun W (hb : Below w.heap.size w W) => fsize_any (h.below hb))
  have hb := h.big
  have hn2 := h.n2
  have hi : C * S.s ≤ S.n * S.s := Nat.mul_le_mul_right _ (by omega)
  have e1 : IntKind.i64.wrap ((S.n : Int) - (F : Int)) = (S.n : Int) - (F : Int) := IntWalk.i64_in _ (by omega)
  have e2 : IntKind.i64.wrap ((C : Int) * (S.s : Int)) = ((C * S.s : Nat) : Int) := by rw [← Int.natCast_mul, IntKind.wrap_i64]; omega
  have HQ := Lib.hid (And.intro h1 (And.intro h2 h3))
  obtain ⟨M, hM⟩ : ∃ M, C * S.s = M := ⟨_, rfl⟩
  rw [hM] at e2 h3 hi
  clear hM
  have q3 : decide (S.n < F) = false := decide_eq_false (by omega)
  have p1 : decide ((C : Int) < 1) = false := decide_eq_false (by omega)
  have p2 : decide ((F : Int) < 0) = false := decide_eq_false (by omega)
  have p3 : decide ((F : Int) > (S.n : Int)) = false := decide_eq_false (by omega)
  have p4 : decide ((C : Int) > (S.n : Int) - (F : Int)) = false := decide_eq_false (by omega)
  have p5 : decide ((M : Int) < 64) = false := decide_eq_false (by omega)
  clear h h1 h2 h3 hb hi hn2
  go_enter Tryd.func11, Tryd.ntmps11
  go_wp2_with fail
  refine (SC.out _ (Below.refl _ _)).mono ?_
  rintro e w1 ⟨rfl, hb1⟩
  go_wp2_with fail
  refine (SC.out _ hb1).mono ?_
  rintro e w2 ⟨rfl, hb2⟩
  have HB2 := kp_call hb1 hb2
  go_wp2_with fail
  refine (SZ.out _ HB2).mono ?_
  rintro e w3 ⟨rfl, rfl⟩
  go_wp2
  go_ret2
  have hg := H.out.alt
  have ha := H.out.ab
  have hz := HB2.size
  have hgb := H.out.gb
  exact ⟨w3.heap.size, rfl, ⟨has_new _ _, (H.out.below HB2).alloc _, HQ.out.1, HQ.out.2.1, HQ.out.2.2, by omega, by omega, by omega⟩, hz, kp_alloc HB2 _⟩
/-- Bytes of the bank that are within it. -/
theorem bytes_yes (h : BK w base b g a c S F C) (hS : S.off = false) (at_ n : Nat) (hn : at_ + n ≤ C * S.s) :
    Calls Tryd.prog 51 #[.pointer (some ⟨b, 0, none⟩), .int .i64 (at_ : Int), .int .i64 (n : Int)] w fun e w' => ∃ A c', e = .returned (.tuple #[.slice A n c', .bool true]) ∧ OwnB w' w.heap.size A n c' (cut (S.bank F C) at_ n) ∧ Below w.heap.size w w' := by
  have SZ := Lib.hid (bsize_any h)
  have ST := Lib.hid (fun W (hb : Below w.heap.size w W) => start_any (h.below hb))
  have hin := h.in_
  have hbig := h.fl.big
  have RD := Lib.hid (fun W (hb : Below w.heap.size w W) => fread_any (h.fl.below hb) hS (F * S.s + at_) n (by omega))
  rw [bank_cut S F C at_ n hn] at RD
  obtain ⟨P, hP⟩ : ∃ P, F * S.s + at_ = P := ⟨_, rfl⟩
  have e1 : IntKind.i64.wrap (((C * S.s : Nat) : Int) - (at_ : Int)) = ((C * S.s : Nat) : Int) - (at_ : Int) := IntWalk.i64_in _ (by omega)
  have e2 : IntKind.i64.wrap (((F * S.s : Nat) : Int) + (at_ : Int)) = (P : Int) := by rw [IntWalk.i64_in _ (by omega)]; omega
  have p1 : decide ((n : Int) > ((C * S.s : Nat) : Int) - (at_ : Int)) = false := decide_eq_false (by omega)
  obtain ⟨k0, k1, k2⟩ := cells_3 h.bk
  have hblt := h.alt
  rw [hP] at RD
  generalize C * S.s = M at *
  generalize F * S.s = N at *
  have KEEP : Hid (∀ W, Below w.heap.size w W → W.cell? ⟨b, 0, none⟩ = some (.pointer (some ⟨g, 0, none⟩)) ∧ Below w.heap.size w W) := fun W hb => ⟨kp_cell hb k0, hb⟩
  clear h hin hbig hn hP k1 k2
  go_enter Tryd.func51, Tryd.ntmps51
  go_wp2_with fail
  refine SZ.out.mono ?_
  rintro e w1 ⟨rfl, hb1⟩
  have k0' := kp_cell hb1 k0
  have hbb := hb1
  clear hb1 SZ k0
  go_wp2_with fail
  go_region_held3 (fun W => W.cell? ⟨b, 0, none⟩ = some (.pointer (some ⟨g, 0, none⟩)) ∧ Below w.heap.size w W)
    ((apply KEEP.out; repeat (with_reducible (first | assumption | refine kp_drew ?_ | refine kp_call ?_ (by assumption)))))
    (first
      | (go_at_call 39; (with_reducible refine (ST.out _ (by (go_split_ands; assumption))).mono ?_); (rintro e X1 ⟨rfl, hb2⟩))
      | (go_at_call 44; (with_reducible refine (RD.out _ (by (go_split_ands; assumption))).mono ?_); (rintro e X2 ⟨A2, c2, rfl, ho2, hb3⟩; have O2 := Lib.hid ho2; clear ho2)))
  all_goals
    have hbX : Below w.heap.size w X2 := by go_split_ands; assumption
    have O3 : Hid (OwnB X2 w.heap.size A2 n c2 (cut (S.bank F C) at_ n)) := O2.out.lower (by
      have h9 := hbb.size
      first | exact h9 | (have h8 := hb2.size; (try simp at h8 ⊢); omega))
    have HBX := Lib.hid hbX
    clear O2 hbX hbb
    go_wp2
    go_ret2
    exact ⟨A2, c2, rfl, O3.out, HBX.out⟩
theorem bytes_no (h : BK w base b g a c S F C) (at_ n : Nat) (hat : at_ ≤ C * S.s) (hn9 : n ≤ 1000000000) (hn : C * S.s < at_ + n) :
    Calls Tryd.prog 51 #[.pointer (some ⟨b, 0, none⟩), .int .i64 (at_ : Int), .int .i64 (n : Int)] w fun e w' => e = .returned (.tuple #[.slice none 0 0, .bool false]) ∧ Below w.heap.size w w' := by
  have SZ := Lib.hid (bsize_any h)
  have hin := h.in_
  have hbig := h.fl.big
  have e1 : IntKind.i64.wrap (((C * S.s : Nat) : Int) - (at_ : Int)) = ((C * S.s : Nat) : Int) - (at_ : Int) := IntWalk.i64_in _ (by omega)
  have p1 : decide ((n : Int) > ((C * S.s : Nat) : Int) - (at_ : Int)) = true := decide_eq_true (by omega)
  generalize C * S.s = M at *
  clear h hin hbig hn hat
  go_enter Tryd.func51, Tryd.ntmps51
  go_wp2_with fail
  refine SZ.out.mono ?_
  rintro e w1 ⟨rfl, hb1⟩
  go_wp2
  go_ret2
  exact ⟨rfl, hb1⟩
end
end Go.Proofs.YtkajlbdiofobcaaDoor
