/-
  vname: Right, Key.
-/
import Derived.Test.YtjcbmgpmlekamaaVnC
import Derived.Lib.AppendStr
import Derived.Deep.Cut
namespace Go.Proofs.Ytjcbmgpmlekamaa
open Go.RowKit Go
set_option linter.unusedVariables false
set_option linter.unusedSimpArgs false
set_option maxRecDepth 100000
def fineB (p : UInt8) : Bool := decide (33 ≤ p.toNat) && decide (p.toNat ≤ 126)
/-- Which bytes may be a name. -/
def rightL (L : List UInt8) : Bool := decide (1 ≤ L.length ∧ L.length ≤ 64) && L.all fineB
theorem str_at (s : ByteArray) (i : Nat) (h : i < s.size) (p : UInt8) (hp : s.data.toList[i]? = some p) : ∀ W k, (Instr.index 9 (.string s) (.int k (i : Int))).run Try.prog W = .ok (.int .u8 (p.toNat : Int)) W := by
  intro W k
  rw [run_index_string W 9 s k _ Try.underlying9, dif_pos ⟨by omega, by omega⟩]
  have : s[((i : Int)).toNat]'(by omega) = p := by
    have h1 : s[i]'h = p := by
      have h2 : s.data.toList[i]? = some (s[i]'h) := by
        rw [Array.getElem?_toList, Array.getElem?_eq_getElem (by exact h)]
        rfl
      rw [hp] at h2
      exact (Option.some.inj h2).symm
    exact h1
  rw [this]
theorem data_size (s : ByteArray) : s.data.toList.length = s.size := by simp
set_option maxHeartbeats 4000000 in
theorem right_any (s : ByteArray) (hs : s.size ≤ 1000000000) (w : World) : Calls Try.prog 15 #[.string s] w fun e w' => e = .returned (.bool (rightL s.data.toList)) ∧ w' = w := by
  have hsz := data_size s
  obtain ⟨n, hn⟩ : ∃ n, s.size = n := ⟨_, rfl⟩
  by_cases h1 : n < 1
  · have p1 : decide ((s.size : Int) < 1) = true := decide_eq_true (by omega)
    have FIN : Hid (rightL s.data.toList = false) := by unfold Hid rightL; rw [decide_eq_false (by omega)]; rfl
    go_enter Try.func15, Try.ntmps15
    go_wp2
    go_ret
    rw [FIN.out]
    exact ⟨rfl, rfl⟩
  have p1 : decide ((s.size : Int) < 1) = false := decide_eq_false (by omega)
  by_cases h2 : 64 < n
  · have p2 : decide ((s.size : Int) > 64) = true := decide_eq_true (by omega)
    have FIN : Hid (rightL s.data.toList = false) := by unfold Hid rightL; rw [decide_eq_false (by omega)]; rfl
    go_enter Try.func15, Try.ntmps15
    go_wp2
    go_ret
    rw [FIN.out]
    exact ⟨rfl, rfl⟩
  have p2 : decide ((s.size : Int) > 64) = false := decide_eq_false (by omega)
  have HR : Hid (rightL s.data.toList = s.data.toList.all fineB) := by unfold Hid rightL; rw [decide_eq_true (by omega)]; rfl
  have HS := Lib.hid hsz
  have hN : Hid (s.size ≤ 64) := by unfold Hid; omega
  clear hn h1 h2 hsz
  go_enter Try.func15, Try.ntmps15
  go_wp2_with fail
  go_loopw [14] (fun v wl => ∃ i : Nat, v = .int .i64 (i : Int) ∧ i ≤ s.size ∧ Hid ((s.data.toList.take i).all fineB = true ∧ wl = w)) (fun v _ => s.size - (intOf v).toNat)
  case atStart => exact ⟨0, rfl, Nat.zero_le _, rfl, rfl⟩
  case round =>
    obtain ⟨i, rfl, hi, HK⟩ := hrel
    by_cases hlt : i < s.size
    · have i1 : (i : Int) < (s.size : Int) := by omega
      have i0 : (0 : Int) ≤ (i : Int) := by omega
      have e9 : IntKind.i64.wrap ((i : Int) + 1) = (i : Int) + 1 := IntWalk.i64_in _ (by have := hN.out; omega)
      obtain ⟨p, hp⟩ : ∃ p, s.data.toList[i]? = some p := ⟨_, List.getElem?_eq_getElem (by rw [HS.out]; exact hlt)⟩
      have hix := str_at s i hlt p hp
      have HP := Lib.hid hp
      clear hp
      by_cases a1 : p.toNat < 33
      · have t1 : decide ((p.toNat : Int) < 33) = true := decide_eq_true (by omega)
        have FIN : Hid (rightL s.data.toList = false ∧ wr = w) := ⟨by
          rw [HR.out]
          have : ¬ s.data.toList.all fineB = true := fun h => by
            have h9 := List.all_eq_true.1 h p (List.mem_of_getElem? HP.out)
            unfold fineB at h9
            rw [decide_eq_false (by omega)] at h9
            cases h9
          simpa using this, HK.out.2⟩
        clear HK HP
        go_wp2_with fail
        go_ret
        rw [FIN.out.1]
        exact ⟨rfl, FIN.out.2⟩
      · have t1 : decide ((p.toNat : Int) < 33) = false := decide_eq_false (by omega)
        by_cases a2 : 126 < p.toNat
        · have t2 : decide ((p.toNat : Int) > 126) = true := decide_eq_true (by omega)
          have FIN : Hid (rightL s.data.toList = false ∧ wr = w) := ⟨by
            rw [HR.out]
            have : ¬ s.data.toList.all fineB = true := fun h => by
              have h9 := List.all_eq_true.1 h p (List.mem_of_getElem? HP.out)
              unfold fineB at h9
              rw [decide_eq_false (show ¬ p.toNat ≤ 126 by omega)] at h9
              simp at h9
            simpa using this, HK.out.2⟩
          clear HK HP
          go_wp2_with fail
          go_ret
          rw [FIN.out.1]
          exact ⟨rfl, FIN.out.2⟩
        · have t2 : decide ((p.toNat : Int) > 126) = false := decide_eq_false (by omega)
          have NXT : Hid ((s.data.toList.take (i + 1)).all fineB = true ∧ wr = w) := ⟨by
            rw [List.take_add_one, List.all_append, HK.out.1, HP.out]
            simp only [Option.toList_some, List.all_cons, List.all_nil, Bool.and_true, Bool.true_and]
            unfold fineB
            rw [decide_eq_true (by omega), decide_eq_true (by omega)]; rfl, HK.out.2⟩
          clear HK HP
          go_wp2_with fail
          go_roundw
          case rel => exact ⟨i + 1, by go_num, by omega, NXT⟩
          case measure => simp [intOf]; omega
    · have i1 : ¬ (i : Int) < (s.size : Int) := by omega
      have FIN : Hid (rightL s.data.toList = true ∧ wr = w) := ⟨by
        rw [HR.out]
        have h9 := HK.out.1
        rw [List.take_of_length_le (by rw [HS.out]; omega)] at h9
        exact h9, HK.out.2⟩
      clear HK
      go_wp2_with fail
      go_ret
      rw [FIN.out.1]
      exact ⟨rfl, FIN.out.2⟩
/-- A 16 bytes' space. -/
def gv (G : List UInt8) : Array Value := (G.map bv).toArray
/-- What Key answers. -/
def KeyPost (s : ByteArray) (G : List UInt8) (w : World) (e : Ending) (w' : World) : Prop :=
  ∃ A n c r, e = .returned (.tuple #[.slice A n c, .int .i64 r]) ∧ OwnB w' w.heap.size A n c (if rightL s.data.toList = true then G ++ s.data.toList else []) ∧ r = (if rightL s.data.toList = true then 0 else 1) ∧ Below w.heap.size w w'
theorem wpList_apg {w : World} {ops : Array Oper} {rest : List Oper} {o : Oper} {a : Act} {Q : Exit → Act → World → Prop} (s x : Operand) (ho : o.op = .call { callee := .builtin .append, args := #[s, x], argTypes := #[24, 9] }) (hgd : o.guard = none) (hty : o.type = 24)
    (g n : Nat) (bs : List UInt8) (hs : a.eval s = .slice (some ⟨g, 0, none⟩) n n) (hR : RB w (some ⟨g, 0, none⟩) n bs) (S : ByteArray) (hx : a.eval x = .string S) (h1 : 1 ≤ S.size) (hlim : n + S.size ≤ 140737488355328)
    (h : ∀ A' c' w', OwnB w' w.heap.size A' (n + S.size) c' (bs ++ S.data.toList) → Below w.heap.size w w' → wpList Try.prog ops Q rest (a.put o.dst (.slice A' (n + S.size) c')) w') : wpList Try.prog ops Q (o :: rest) a w := by
  refine wpList_plain hgd fun K hK => ?_
  obtain ⟨i, hi, hz0, hz1, hz2⟩ := info_parts u8_info
  have hge := grownCap_ge w (n + S.size) n 5
  have hcm : grownCap w (n + S.size) n 5 ≤ maxLen := grownCap_le_maxLen w (n + S.size) n 5 (by unfold maxLen; omega)
  have hrun := Lib.run_append_grow_string (P := Try.prog) w 24 9 24 5 i (.int .u8 0) Try.underlying24 Try.underlying9 hi hz0 ⟨g, 0, none⟩ n n (bs.map bv) (by rw [List.length_map, hz1, hR.1, Nat.mul_one]) (fun j v hv => by
      have hj : j < bs.length := by
        rcases Nat.lt_or_ge j bs.length with h9 | h9
        · exact h9
        · rw [List.getElem?_eq_none (by simpa using h9)] at hv; cases hv
      obtain ⟨b, off, e, _, hc⟩ := hR.2 (by rintro rfl; simp at hj)
      injection e with e
      injection e with e1 e2
      subst e1 e2
      rw [List.getElem?_map, List.getElem?_eq_getElem hj] at hv
      injection hv with hv
      have hadd : (⟨g, 0, none⟩ : Addr).add j = ⟨g, 0 + j, none⟩ := by unfold Addr.add; split <;> simp_all
      rw [hadd, hc j hj, ← hv]) S (by omega) (by omega) (by have := growslice_fits (need := n + S.size) (old := n) (bytes := i.bytes) (by omega) (by rw [hz2]; omega); exact this)
  unfold Oper.wp execOp
  simp only [ho, resolve, invoke, builtin, Sem.run_bind, Sem.run_pure, Result.andThen_ok, List.map_toArray, List.map_cons, List.map_nil, hs, hx, hty, hrun]
  refine hK _ _ (h (some ⟨w.heap.size, 0, none⟩) _ _ ?_ ?_)
  · refine ⟨?_, .inr ⟨w.heap.size, _, _, rfl, Nat.le_refl _, heap_alloc_new w.drew _, hge, hcm, ?_, ?_⟩⟩
    · rw [List.length_map, List.length_append, hR.1]; simp
    · simp only [Array.size_append, List.size_toArray, size_zeroCells, List.length_map, Lib.strCells_length, hR.1]
      have : (Value.int .u8 0).cells.size = 1 := rfl
      rw [this]
      omega
    · simp only [Array.toList_append]
      rw [List.map_append, Nat.mul_one]
      have hl : ((bs.map bv) ++ Lib.strCells S).length = n + S.size := by rw [List.length_append, List.length_map, hR.1, Lib.strCells_length]
      have e1 : S.data.toList.map bv = Lib.strCells S := rfl
      rw [e1, ← hl]
      exact List.take_left
  · exact (kp_alloc (kp_drew (Below.refl _ _)) _)
end Go.Proofs.Ytjcbmgpmlekamaa
