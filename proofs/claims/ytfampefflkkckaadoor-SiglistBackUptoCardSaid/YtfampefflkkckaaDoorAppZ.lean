/-
  Appending noughts: 'append(b, make([]byte, k)...)'.
-/
import Derived.Test.YtfampefflkkckaaDoorApp1
import Derived.Lib.AppendZerosOnto
import Derived.Lib.AppendZeros
namespace Go.Proofs.YtfampefflkkckaaDoor
open Go.RowKit Go
set_option linter.unusedVariables false
theorem zeros_list (k : Nat) : (Builtin.zeroCells (Value.int .u8 0).cells k).toList = (List.replicate k (0 : UInt8)).map bv := by
  have h := toList_madeCells_one (.int .u8 0) k
  have e : bv 0 = .int .u8 0 := rfl
  rw [List.map_replicate, e]
  simpa [Builtin.zeroCells, madeCells, Value.cells] using h
section
variable (w : World)
theorem run_appz (base : Nat) (A0 : Option Addr) (n0 c0 : Nat) (bs : List UInt8) (hown : OwnB w base A0 n0 c0 bs) (k : Nat) (h0 : 0 < k) (hlim : n0 + k ≤ 140737488355328) (hbase : base ≤ w.heap.size) :
    ∃ A' c' w', (Builtin.append_ #[22, 3] 22 #[.slice A0 n0 c0, .int .i64 (k : Int)]).run Tryd.prog w = .ok (.slice A' (n0 + k) c') w' ∧
      OwnB w' base A' (n0 + k) c' (bs ++ List.replicate k 0) ∧ w.grownBy w' (blk A0) := by
  obtain ⟨i, hi, hz0, hz1, hz2⟩ := info_parts u8_info
  have hlen := hown.len
  have hzl := zeros_list k
  have hzs : (Builtin.zeroCells (Value.int .u8 0).cells k).toList.length = k := by rw [hzl]; simp
  by_cases hroom : n0 + k ≤ c0
  · rcases hown.2 with ⟨hv, hn⟩ | ⟨g, cap, cur, hv, hb, hh, hle, hm, hcs, htk⟩
    · injection hv with _ _ h3; omega
    · injection hv with h1 _ h3
      subst h1; subst h3
      simp only [Nat.mul_one] at hcs htk
      have hl : cur.toList.length = c0 := by simpa using hcs
      have hst := run_storeCells_at Tryd.prog g n0 5 (Builtin.zeroCells (Value.int .u8 0).cells k).toList 0 cur w hh (by rw [hzs, hcs]; omega) (by rw [hzl]; intro u hu; simp at hu; obtain ⟨_, rfl⟩ := hu; rfl)
      have hw : IntKind.i64.wrap (k : Int) = k := by rw [IntKind.wrap_i64]; omega
      have hneg : ¬ ((k : Int) < 0) := by omega
      have h48i : ¬ (281474976710656 < (k : Int) * (i.bytes : Int)) := by rw [hz2]; omega
      have hns : ¬ (k = 0) := by omega
      have hr : (Builtin.append_ #[22, 3] 22 #[.slice (some ⟨g, 0, none⟩) n0 c0, .int .i64 (k : Int)]).run Tryd.prog w = .ok (.slice (some ⟨g, 0, none⟩) (n0 + k) c0) (w.setRow g (cur.toList.take n0 ++ (Builtin.zeroCells (Value.int .u8 0).cells k).toList ++ cur.toList.drop (n0 + k)).toArray) := by
        rw [hzs] at hst
        simp only [Nat.add_zero] at hst
        simp [Builtin.append_, run_underlying Tryd.underlying22, run_underlying Tryd.underlying3, sizeOf, typeInfo, zeroValue, hi, hz0, hz1, asInt, asIntOf, hw, hneg, h48i, hns, hroom, Addr.add_lit, hst]
      have hsz : (cur.toList.take n0 ++ (Builtin.zeroCells (Value.int .u8 0).cells k).toList ++ cur.toList.drop (n0 + k)).length = c0 := by
        simp only [List.length_append, List.length_take, List.length_drop, hl, hzs]; omega
      have hh' := setRow_heap w g cur (cur.toList.take n0 ++ (Builtin.zeroCells (Value.int .u8 0).cells k).toList ++ cur.toList.drop (n0 + k)).toArray _ _ hh
      have htk2 : (cur.toList.take n0 ++ (Builtin.zeroCells (Value.int .u8 0).cells k).toList ++ cur.toList.drop (n0 + k)).take (n0 + k) = (bs ++ List.replicate k 0).map bv := by
        rw [List.take_append_of_le_length (by rw [List.length_append, List.length_take, hl, hzs]; omega), List.take_of_length_le (by rw [List.length_append, List.length_take, hl, hzs]; omega), htk, hzl, List.map_append]
      refine ⟨_, _, _, hr, ⟨by simp [hlen], .inr ⟨g, c0, _, rfl, hb, hh', hroom, hm, by simpa using hsz, by simpa using htk2⟩⟩, ⟨rfl, rfl, rfl, by simp [World.setRow], fun j _ hj => setRow_other w g j _ (fun e => hj (by rw [e]; rfl))⟩⟩
  · have hge := grownCap_ge w (n0 + k) c0 5
    have hcm : grownCap w (n0 + k) c0 5 ≤ maxLen := grownCap_le_maxLen w (n0 + k) c0 5 (by unfold maxLen; omega)
    have hold : (Builtin.firstCells i.size n0 (.slice A0 n0 c0)).run Tryd.prog w.drew = .ok (bs.map bv).toArray w.drew := by
      rcases hown.2 with ⟨hv, hn⟩ | ⟨g, cap, cur, hv, hb, hh, hle, hm, hcs, htk⟩
      · injection hv with h1 h2 h3
        subst h1; subst h2; subst h3
        have hbs : bs = [] := List.eq_nil_of_length_eq_zero hlen
        subst hbs
        simp [Builtin.firstCells]
      · injection hv with h1 h2 h3
        subst h1; subst h3
        have holds : ∀ j v, (bs.map bv)[j]? = some v → w.cell? ((⟨g, 0, none⟩ : Addr).add j) = some v := World.ownsRow.cells (v := .slice (some ⟨g, 0, none⟩) n0 c0) hown rfl
        exact run_firstCells_some (P := Tryd.prog) w.drew i.size n0 ⟨g, 0, none⟩ n0 c0 (bs.map bv) (by rw [hz1, List.length_map, hlen, Nat.mul_one]) holds
    have hr := Lib.run_append_grow_zeros (P := Tryd.prog) w 22 3 22 5 i (.int .u8 0) .i64 .i64 Tryd.underlying22 Tryd.underlying3 hi hz0 A0 n0 c0 (bs.map bv) hold k h0 (by omega) (by omega) (by omega) (by rw [hz2]; omega) (growslice_fits (by omega) (by rw [hz2]; omega))
    refine ⟨_, _, _, hr, ⟨by simp [hlen], .inr ⟨w.heap.size, _, _, rfl, hbase, heap_alloc_new w.drew _, hge, hcm, ?_, ?_⟩⟩, ⟨rfl, rfl, rfl, by simp, fun j hj _ => Below.heap_alloc w.drew _ j hj⟩⟩
    · simp only [Array.size_append, List.size_toArray, List.length_map, hlen, size_zeroCells]
      show n0 + k * 1 + (_ - (n0 + k)) * 1 = _ * 1
      omega
    · simp only [Array.toList_append, List.append_assoc, Nat.mul_one, hzl]
      rw [← List.append_assoc, List.take_append_of_le_length (by rw [List.length_append, List.length_map, List.length_map, List.length_replicate, hlen]; omega), List.take_of_length_le (by rw [List.length_append, List.length_map, List.length_map, List.length_replicate, hlen]; omega), List.map_append]
end
section
variable {w : World} {ops : Array Oper} {rest : List Oper} {o : Oper} {a : Act} {Q : Exit → Act → World → Prop}
theorem wpList_appz (s x : Operand) (ho : o.op = .call { callee := .builtin .append, args := #[s, x], argTypes := #[22, 3] }) (hgd : o.guard = none) (hty : o.type = 22)
    (base : Nat) (A0 : Option Addr) (n0 c0 : Nat) (bs : List UInt8) (hs : a.eval s = .slice A0 n0 c0) (hown : OwnB w base A0 n0 c0 bs) (k : Nat) (hx : a.eval x = .int .i64 (k : Int)) (h0 : 0 < k) (hlim : n0 + k ≤ 140737488355328) (hbase : base ≤ w.heap.size)
    (h : ∀ A' c' w', OwnB w' base A' (n0 + k) c' (bs ++ List.replicate k 0) → w.grownBy w' (blk A0) → wpList Tryd.prog ops Q rest (a.put o.dst (.slice A' (n0 + k) c')) w') : wpList Tryd.prog ops Q (o :: rest) a w := by
  refine wpList_plain hgd fun K hK => ?_
  obtain ⟨A', c', w', hrun, h2, h3⟩ := run_appz w base A0 n0 c0 bs hown k h0 hlim hbase
  unfold Oper.wp execOp
  simp only [ho, resolve, invoke, builtin, Sem.run_bind, Sem.run_pure, Result.andThen_ok, List.map_toArray, List.map_cons, List.map_nil, hs, hx, hty, hrun]
  exact hK _ _ (h A' c' w' h2 h3)
end
end Go.Proofs.YtfampefflkkckaaDoor
