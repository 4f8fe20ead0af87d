/-
  der: the statement on object identifiers.
-/
import Derived.Test.YtlkiobngafjeiaaDrWk
import Derived.Test.YtlkiobngafjeiaaDrR
import Derived.Test.YtlkiobngafjeiaaNs
namespace Go.Proofs.Ytlkiobngafjeiaa
open Go.RowKit Go
set_option linter.unusedVariables false
set_option linter.unusedSimpArgs false
set_option maxRecDepth 100000
def oidB (bs : List UInt8) : Bool := (oidQ bs).isSome
def oidL (bs : List UInt8) : List Nat := (oidQ bs).getD []
theorem oidL_lt (bs : List UInt8) : ∀ x ∈ oidL bs, x < 18446744073709551616 := by
  unfold oidL oidQ
  cases h : numsQ bs with
  | none => intro x hx; cases hx
  | some l =>
    have hl := numsQ_lt _ bs l (Nat.le_refl _) h
    cases l with
    | nil => intro x hx; cases hx
    | cons y r =>
      have hy := hl y (by simp)
      intro x hx
      simp only [arcs, Option.getD_some, List.mem_cons] at hx
      rcases hx with rfl | rfl | hx
      · omega
      · omega
      · exact hl x (by simp [hx])
theorem oidL_len (bs : List UInt8) : (oidL bs).length ≤ bs.length + 1 := by
  unfold oidL oidQ
  cases h : numsQ bs with
  | none => simp
  | some l =>
    have hl := numsQ_len _ bs l (Nat.le_refl _) h
    cases l with
    | nil => simp
    | cons y r => have := arcs_len (y :: r); simp only [Option.getD_some]; omega
def OidP (w : World) (bs : List UInt8) (e : Ending) (w' : World) : Prop :=
  (∃ A n c, e = .returned (.tuple #[.slice A n c, .bool (oidB bs)]) ∧ RN w' A n (oidL bs) ∧ n ≤ bs.length + 1) ∧ Below w.heap.size w w'
theorem oid_p {w w' : World} {bs : List UInt8} {e : Ending} (h : OidPost w bs e w') : OidP w bs e w' := by
  have hlt := oidL_lt bs
  have hln := oidL_len bs
  unfold OidPost at h
  unfold OidP
  unfold oidB
  unfold oidL at *
  cases hq : oidQ bs with
  | none =>
    rw [hq] at h
    obtain ⟨⟨A, c, rfl⟩, hb⟩ := h
    exact ⟨⟨A, 0, c, rfl, ⟨rfl, ReadR.nil, fun j x hx => by simp at hx⟩, by omega⟩, hb⟩
  | some l =>
    rw [hq] at h hlt hln
    obtain ⟨⟨A, n, c, rfl, ho⟩, hb⟩ := h
    have hl : l.length = n := by have := ho.len; simpa using this
    exact ⟨⟨A, n, c, rfl, ⟨hl, ho.reads, fun j x hx => hlt x (List.mem_of_getElem? hx)⟩, by simp at hln; omega⟩, hb⟩
theorem oids_big (A B : Option Addr) (n c m k : Nat) (w : World) (hb : 8192 < n) :
    Calls Try.prog 7 #[.slice A n c, .slice B m k] w fun e w' => e = .returned (.bool true) ∧ Below w.heap.size w w' := by
  have W := Lib.hid (works_any w)
  have L := Lib.hid (large_any A n c w)
  have hd : decide ((8192 : Int) < (n : Int)) = true := by simp; omega
  rw [hd] at L
  clear hd
  go_enter Try.func7, Try.ntmps7
  go_wp2_with fail
  refine L.out.mono ?_
  rintro e w' ⟨rfl, rfl⟩
  go_wp2_with fail
  refine W.out.mono ?_
  rintro e w' ⟨rfl, hb⟩
  go_wp2
  go_ret
  exact ⟨rfl, hb⟩
theorem oids_many (A B : Option Addr) (n c m k : Nat) (w : World) (hb : ¬ 8192 < n) (hm : 1024 < m) :
    Calls Try.prog 7 #[.slice A n c, .slice B m k] w fun e w' => e = .returned (.bool true) ∧ Below w.heap.size w w' := by
  have W := Lib.hid (works_any w)
  have L := Lib.hid (large_any A n c w)
  have hd : decide ((8192 : Int) < (n : Int)) = false := by simp; omega
  have h2 : decide ((1024 : Int) < (m : Int)) = true := by simp; omega
  rw [hd] at L
  clear hd
  go_enter Try.func7, Try.ntmps7
  go_wp2_with fail
  refine L.out.mono ?_
  rintro e w' ⟨rfl, rfl⟩
  go_wp2_with fail
  refine W.out.mono ?_
  rintro e w' ⟨rfl, hb⟩
  go_wp2
  go_ret
  exact ⟨rfl, hb⟩
theorem oids_go (A B : Option Addr) (n c m k : Nat) (bs : List UInt8) (xs : List Nat) (w : World) (hb : ¬ 8192 < n) (hm : ¬ 1024 < m) (hR : IsBs w A n c bs) (hN : IsNs w B m k xs) :
    Calls Try.prog 7 #[.slice A n c, .slice B m k] w fun e w' => e = .returned (.bool true) ∧ Below w.heap.size w w' := by
  have W := Lib.hid (fun W => works_any W)
  have L := Lib.hid (large_any A n c w)
  have hd : decide ((8192 : Int) < (n : Int)) = false := by simp; omega
  have h2 : decide ((1024 : Int) < (m : Int)) = false := by simp; omega
  rw [hd] at L
  have hl := hR.len
  have C := Lib.hid (copy_any A n c bs w hR.rb (by omega))
  have RO := Lib.hid (fun W (hw : Below w.heap.size w W) => (roid_any A n c bs W (hR.rb.below hw) (by omega)).mono fun e w' h => oid_p h)
  have hk : m ≤ k := hN.le
  have hk2 : k ≤ 9223372036854775807 := by have := hN.max; unfold maxLen at this; omega
  have PO := Lib.hid (fun W (hw : Below w.heap.size w W) => putoid_any B m k xs W (hN.rn.below hw (Nat.le_refl _)) hk (by omega) hk2)
  have RP := Lib.hid (fun W (hw : Below w.heap.size w W) => rputoid_any B m k xs W (hN.rn.below hw (Nat.le_refl _)) hk (by omega) hk2)
  have hbb : (oidB bs == oidB bs) = true := by simp
  have HL := Lib.hid hl
  clear hd hR hN hk hk2 hl
  go_enter Try.func7, Try.ntmps7
  go_wp2_with fail
  refine L.out.mono ?_
  rintro e w' ⟨rfl, rfl⟩
  go_wp2_with fail
  refine C.out.mono ?_
  rintro e w1 ⟨A1, n1, c1, rfl, ho1, hb1⟩
  have hn1 : n1 ≤ 8192 := by have := ho1.len; have := HL.out; omega
  have O1 := Lib.hid ((oid_any A1 n1 c1 bs w1 ho1.rb ho1.cap.1 (by omega) (by have := ho1.cap.2; unfold maxLen at this; omega)).mono fun e w' h => oid_p h)
  clear ho1
  go_wp2_with fail
  refine O1.out.mono ?_
  rintro e w2 ⟨⟨A2, n2, c2, rfl, hr2, hn2⟩, hb2⟩
  have hb2' := kp_call hb1 hb2
  go_wp2_with fail
  refine (RO.out _ hb2').mono ?_
  rintro e w3 ⟨⟨A3, n3, c3, rfl, hr3, hn3⟩, hb3⟩
  have hb3' := kp_call hb2' hb3
  have EN := Lib.hid (eqn_any A2 A3 n2 n3 c2 c3 _ _ w3 (hr2.below hb3 (Nat.le_refl _)) hr3 (by have := HL.out; omega) (by have := HL.out; omega))
  rw [beq_self_eq_true] at EN
  clear hr2 hr3 hn2 hn3 hb1 hb2 hb2' hb3
  generalize oidB bs = ob at *
  go_wp2_with fail
  refine EN.out.mono ?_
  rintro e w' ⟨rfl, z, rfl⟩
  have hb4 := kp_drewN hb3' z
  go_wp2_with fail
  refine (PO.out _ hb4).mono ?_
  rintro e w5 ⟨A5, n5, c5, rfl, ho5, hb5⟩
  have hb5' := kp_call hb4 hb5
  have HO5 := Lib.hid ho5
  clear ho5 hb4
  go_wp2_with fail
  refine (RP.out _ hb5').mono ?_
  rintro e w6 ⟨A6, n6, c6, rfl, ho6, hb6⟩
  have hb6' := kp_call hb5' hb6
  have EQ := Lib.hid (eq_any A5 A6 n5 n6 c5 c6 _ _ w6 (HO5.out.below hb6 (Nat.le_refl _)).rb ho6.rb)
  rw [beq_self_eq_true] at EQ
  clear ho6 hb6 hb5'
  go_wp2_with fail
  refine EQ.out.mono ?_
  rintro e w' ⟨rfl, rfl⟩
  go_wp2_with fail
  refine (W.out _).mono ?_
  rintro e w' ⟨rfl, hb⟩
  go_wp2
  go_ret
  exact ⟨rfl, kp_call hb6' hb⟩
theorem oids_row (A : Option Addr) (n c : Nat) (bs : List UInt8) (B : Option Addr) (m k : Nat) (xs : List Nat) (w : World) (h : IsBs w A n c bs) (hN : IsNs w B m k xs) :
    Calls Try.prog 7 #[.slice A n c, .slice B m k] w fun e w' => e = .returned (.bool true) ∧ Below w.heap.size w w' := by
  by_cases hb : 8192 < n
  · exact oids_big A B n c m k w hb
  by_cases hm : 1024 < m
  · exact oids_many A B n c m k w hb hm
  exact oids_go A B n c m k bs xs w hb hm h hN
end Go.Proofs.Ytlkiobngafjeiaa
