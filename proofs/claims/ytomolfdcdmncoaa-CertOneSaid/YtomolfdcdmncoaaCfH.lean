/-
  cert: the document's signed part.
-/
import Derived.Test.YtomolfdcdmncoaaCc6
import Derived.Test.YtomolfdcdmncoaaCc5
import Derived.Test.YtomolfdcdmncoaaCc5
import Derived.Deep.DeepCutAuto
namespace Go.Proofs.Ytomolfdcdmncoaa
open Go.RowKit Go
set_option linter.unusedVariables false
set_option linter.unusedSimpArgs false
set_option maxRecDepth 100000
theorem e5_cells (e : Nat) (he : e < 8589934592) : (#[.int .u8 ((e : Int) / 4294967296), .int .u8 ((e : Int) / 16777216 % 256), .int .u8 ((e : Int) / 65536 % 256), .int .u8 ((e : Int) / 256 % 256), .int .u8 ((e : Int) % 256)] : Array Value).toList = (e5 e).map bv := by
  simp only [e5, List.map_cons, List.map_nil, bv, UInt8.toNat_ofNat']
  have h1 : (e : Int) / 4294967296 = ((e / 4294967296 % 2 ^ 8 : Nat) : Int) := by omega
  have h2 : (e : Int) / 16777216 % 256 = ((e / 16777216 % 2 ^ 8 : Nat) : Int) := by omega
  have h3 : (e : Int) / 65536 % 256 = ((e / 65536 % 2 ^ 8 : Nat) : Int) := by omega
  have h4 : (e : Int) / 256 % 256 = ((e / 256 % 2 ^ 8 : Nat) : Int) := by omega
  have h5 : (e : Int) % 256 = ((e % 2 ^ 8 : Nat) : Int) := by omega
  rw [h1, h2, h3, h4, h5]
theorem run_index0 (W : World) (b n c : Nat) (hn : 0 < n) : (Instr.indexAt 56 (.slice (some ⟨b, 0, none⟩) n c) (.int .i64 0)).run Try.prog W = .ok (.pointer (some ⟨b, 0, none⟩)) W := by
  have h2 : (0 : Int) < (n : Int) := by omega
  simp [Instr.indexAt, Sem.run_bind, run_underlying Try.underlying56, go_sem, hn, h2]
def pc1 (ca : Bool) (path : Option UInt8) : List (List UInt8) := if ca then [extB o19 (wrQ 48 (basB path))] else []
def pc2 (us : Option Nat) : List (List UInt8) := match us with | none => [] | some v => [extB o15 (wrQ 3 (usB v))]
def pc3 (code : Bool) : List (List UInt8) := if code then [] else [extB o37 (wrQ 48 codB)]
theorem pc_all (ca : Bool) (path : Option UInt8) (us : Option Nat) (code : Bool) : (pc1 ca path ++ pc2 us) ++ pc3 code = (exL ca path us code).map (fun p => extB p.1 p.2) := by
  unfold pc1 pc2 pc3 exL
  cases ca <;> cases us <;> cases code <;> rfl
theorem exF_flat (l : List (List UInt8 × List UInt8)) : exF l = (l.map (fun p => extB p.1 p.2)).flatten := by unfold exF; rw [List.flatMap_def]
theorem codB_is : codB = wrQ 6 [43, 6, 1, 5, 5, 7, 3, 1] := rfl
theorem bas_none : [[1, 1, 255]].flatten = basB none := by decide +kernel
theorem bas_some (p : UInt8) : [[1, 1, 255], wrQ 2 (putI [p])].flatten = basB (some p) := by
  show [1, 1, 255] ++ (wrQ 2 (putI [p]) ++ []) = wrQ 1 [255] ++ wrQ 2 (putI [p])
  rw [one_is, List.append_nil]
theorem pc1_len (ca : Bool) (path : Option UInt8) : (pc1 ca path).length ≤ 1 := by unfold pc1; split <;> simp
theorem pc2_len (us : Option Nat) : (pc2 us).length ≤ 1 := by unfold pc2; split <;> simp
theorem pc1_yes (path : Option UInt8) : pc1 true path = [extB [85, 29, 19] (wrQ 48 (basB path))] := rfl
theorem pc2_some (v : Nat) : pc2 (some v) = [extB [85, 29, 15] (wrQ 3 (usB v))] := rfl
theorem pc3_no : pc3 false = [extB [85, 29, 37] (wrQ 48 codB)] := rfl
theorem fill_host : Instr.fill (fun i => some (i * 1, 1)) ((Array.range (8 * 1)).map ((Value.int .u8 0).cells[· % (Value.int .u8 0).cells.size]!)) [(0, .int .u8 43), (1, .int .u8 6), (2, .int .u8 1), (3, .int .u8 5), (4, .int .u8 5), (5, .int .u8 7), (6, .int .u8 3), (7, .int .u8 1)] = some (([43, 6, 1, 5, 5, 7, 3, 1] : List UInt8).map bv).toArray := by kernel_rfl
theorem fill_tbs_102 : Instr.fill (fun i => some (i * 1, 1)) ((Array.range (5 * 1)).map ((Value.int .u8 0).cells[· % (Value.int .u8 0).cells.size]!)) [(0, .int .u8 160), (1, .int .u8 3), (2, .int .u8 2), (3, .int .u8 1), (4, .int .u8 2)] = some (([160, 3, 2, 1, 2] : List UInt8).map bv).toArray := by kernel_rfl
theorem fill_tbs_107 : Instr.fill (fun i => some (i * 1, 1)) ((Array.range (15 * 1)).map ((Value.int .u8 0).cells[· % (Value.int .u8 0).cells.size]!)) [(0, .int .u8 48), (1, .int .u8 13), (2, .int .u8 6), (3, .int .u8 9), (4, .int .u8 42), (5, .int .u8 134), (6, .int .u8 72), (7, .int .u8 134), (8, .int .u8 247), (9, .int .u8 13), (10, .int .u8 1), (11, .int .u8 1), (12, .int .u8 11), (13, .int .u8 5), (14, .int .u8 0)] = some (([48, 13, 6, 9, 42, 134, 72, 134, 247, 13, 1, 1, 11, 5, 0] : List UInt8).map bv).toArray := by kernel_rfl
theorem fill_tbs_121 : Instr.fill (fun i => some (i * 1, 1)) ((Array.range (15 * 1)).map ((Value.int .u8 0).cells[· % (Value.int .u8 0).cells.size]!)) [(0, .int .u8 48), (1, .int .u8 13), (2, .int .u8 6), (3, .int .u8 9), (4, .int .u8 42), (5, .int .u8 134), (6, .int .u8 72), (7, .int .u8 134), (8, .int .u8 247), (9, .int .u8 13), (10, .int .u8 1), (11, .int .u8 1), (12, .int .u8 1), (13, .int .u8 5), (14, .int .u8 0)] = some (([48, 13, 6, 9, 42, 134, 72, 134, 247, 13, 1, 1, 1, 5, 0] : List UInt8).map bv).toArray := by kernel_rfl
theorem kept_rows {w w' : World} {b b' : Nat} {A A' : Option Addr} {n c n' c' : Nat} {bs : List UInt8} {vs : List Value} {o : Obj} (h : OwnB w b A n c bs) (hM : OwnR w b' 22 1 A' n' c' vs) (hg : (w.alloc o).grownBy w' (blk A')) : OwnB w' b A n c bs :=
  OwnR.kept (OwnB.row (h.alloc o)) hg (OwnR.ne (OwnB.row (h.alloc o)) (OwnR.alloc hM o) (by decide))
/-- The bytes of a certificate's signed part. -/
def tbsB (rb ib : List UInt8) (f t : Tm) (sb nb : List UInt8) (e : Nat) (X : List UInt8) : List UInt8 := wrQ 48 (wrQ 160 [2, 1, 2] ++ (wrQ 2 rb ++ (sgnB ++ (ib ++ (wrQ 48 (spanB f t) ++ (sb ++ (wrQ 48 (spkB nb e) ++ X)))))))
set_option maxHeartbeats 8000000 in
theorem tbs_any (raw tbs iss sub ser nn sig : S3) (f t : Tm) (e : Nat) (ca code : Bool) (path : Option UInt8) (us : Option Nat) (ib sb rb nb : List UInt8) (w : World)
    (hI : RB w iss.1 iss.2.1 ib) (hS : RB w sub.1 sub.2.1 sb) (hR : RB w ser.1 ser.2.1 rb) (hN : RB w nn.1 nn.2.1 nb) (hc1 : nn.2.1 ≤ nn.2.2) (hc2 : nn.2.2 ≤ maxLen)
    (l1 : ib.length ≤ 10000) (l2 : sb.length ≤ 10000) (l3 : rb.length ≤ 10000) (l4 : nb.length ≤ 10000) (hf : f.y ≤ 65535) (ht : t.y ≤ 65535) (he : e < 8589934592) (hu : ∀ v, us = some v → 0 < v ∧ v < 512) :
    Calls Try.prog 34 #[.agg (certC raw tbs iss sub ser f t nn e sig ⟨ca, pathI path, usI us, code⟩)] w
      (Fresh w (tbsB rb ib f t sb nb e (exW (exL ca path us code)))) := by
  have HI := Lib.hid hI
  have HS := Lib.hid hS
  have HR := Lib.hid hR
  have HN := Lib.hid hN
  have HU := Lib.hid hu
  have HE5 := Lib.hid (e5_cells e he)
  clear hI hS hR hN hu
  obtain ⟨CC, HCC⟩ : ∃ CC, Hid (certC raw tbs iss sub ser f t nn e sig ⟨ca, pathI path, usI us, code⟩ = CC) := ⟨_, Lib.hid rfl⟩
  rw [HCC.out]
  have C18 : Hid (CC[18]? = some (.int .u64 (e : Int))) := by rw [← HCC.out]; exact Lib.hid rfl
  go_enter Try.func34, Try.ntmps34
  go_upto_region 2 with (fail)
  refine wp_nm fun w0 hw0 => ?_
  have hb0 : Below w.heap.size w w0 := by rw [← hw0]; exact kp_alloc (Below.refl _ _) _
  have HK := Lib.hid (show w0.heap[w.heap.size]? = some (.cells CC 33) by rw [← hw0]; exact has_new _ _)
  replace HI := Lib.hid (HI.out.below hb0)
  replace HS := Lib.hid (HS.out.below hb0)
  replace HR := Lib.hid (HR.out.below hb0)
  replace HN := Lib.hid (HN.out.below hb0)
  have HB := Lib.hid (hb0)
  clear hw0 hb0
  have c18 : w0.cell? ⟨w.heap.size, 18, none⟩ = some (.int .u64 (e : Int)) := (Lib.cell_of_heap HK.out 18).trans C18.out
  go_wp2_with fail
  clear c18
  have HS0 := Lib.hid HB.out.size
  refine calls_nm fun w1 hw1 => ?_
  have hbw1 : Below w0.heap.size w0 w1 := by rw [← hw1]; exact kp_alloc (Below.refl _ _) _
  replace HI := Lib.hid (HI.out.below hbw1)
  replace HS := Lib.hid (HS.out.below hbw1)
  replace HR := Lib.hid (HR.out.below hbw1)
  replace HN := Lib.hid (HN.out.below hbw1)
  replace HK := Lib.hid (has_below HK.out hbw1)
  replace HB := Lib.hid (kp_call HB.out hbw1)
  have HL1 := Lib.hid (show OwnB w1 w.heap.size (some ⟨w0.heap.size, 0, none⟩) 5 5 (e5 e) by rw [← hw1]; exact (own_lit w0 (e5 e) 5 _ HE5.out rfl (by omega)).lower (by have := HS0.out; omega))
  clear hw1 hbw1
  refine (rputint_any (some ⟨w0.heap.size, 0, none⟩) 5 5 (e5 e) w1 HL1.out.rb (by omega) (by omega) (by omega)).mono ?_
  rintro e' w2 ⟨A1, n1, c1, rfl, ho, hb⟩
  have HO1 := Lib.hid (ho.lower (base' := w.heap.size) HB.out.size)
  replace HI := Lib.hid (HI.out.below hb)
  replace HS := Lib.hid (HS.out.below hb)
  replace HR := Lib.hid (HR.out.below hb)
  replace HN := Lib.hid (HN.out.below hb)
  replace HK := Lib.hid (has_below HK.out hb)
  replace HB := Lib.hid (kp_call HB.out hb)
  clear ho hb HL1
  go_upto_region 3 with (fail)
  refine wp_nm fun w3 hw3 => ?_
  have hbw3 : Below w2.heap.size w2 w3 := by rw [← hw3]; exact kp_alloc (Below.refl _ _) _
  replace HI := Lib.hid (HI.out.below hbw3)
  replace HS := Lib.hid (HS.out.below hbw3)
  replace HR := Lib.hid (HR.out.below hbw3)
  replace HN := Lib.hid (HN.out.below hbw3)
  replace HK := Lib.hid (has_below HK.out hbw3)
  replace HB := Lib.hid (kp_call HB.out hbw3)
  replace HO1 := Lib.hid (HO1.out.below hbw3 (Nat.le_refl _))
  have c4 : w3.cell? ⟨w2.heap.size, 0, none⟩ = some (.slice A1 n1 c1) := by rw [← hw3]; exact Lib.cell_of_heap (has_new _ _) 0
  have C17 : Hid (CC[17]? = some (sv nn)) := by rw [← HCC.out]; exact Lib.hid rfl
  have hp1 := putI_len nb
  have hp2 := putI_len (e5 e)
  have hp3 := wrQ_len 2 (putI nb) (by omega)
  have hp4 : (e5 e).length = 5 := rfl
  have hp5 := wrQ_len 2 (putI (e5 e)) (by omega)
  have HP : Hid ([wrQ 2 (putI nb), wrQ 2 (putI (e5 e))].flatten.length ≤ 20000) := Lib.hid (by simp only [List.flatten_cons, List.flatten_nil, List.append_nil, List.length_append]; omega)
  clear hw3 hbw3
  refine wp_region_mono (by kernel_rfl) (by kernel_rfl) [36, 37, 38, 39, 40, 41, 42, 43, 44, 45, 46, 5] (by rfl) (by decide) (by rfl) (fun j => ([MR.eq (.pointer (some ⟨w.heap.size, 17, none⟩)), MR.eq (.pointer (some ⟨w.heap.size, 17, none⟩)), MR.eq (sv nn), MR.own (w.heap.size) (putI nb), MR.own (w.heap.size) (wrQ 2 (putI nb)), MR.eq (.slice (some ⟨w2.heap.size, 0, none⟩) 1 1), MR.eq (.pointer (some ⟨w2.heap.size, 0, none⟩)), MR.eq (.slice A1 n1 c1), MR.own (w.heap.size) (wrQ 2 (putI (e5 e))), MR.rows [wrQ 2 (putI nb), wrQ 2 (putI (e5 e))], MR.own (w.heap.size) (wrQ 48 [wrQ 2 (putI nb), wrQ 2 (putI (e5 e))].flatten), MR.own (w.heap.size) (wrQ 48 [wrQ 2 (putI nb), wrQ 2 (putI (e5 e))].flatten)] : List MR).getD j MR.any) [] [] (by kernel_rfl) (by kernel_rfl) ?_ ?_
  · intro i hi ρ W E
    simp only [List.length_cons, List.length_nil] at hi
    have hbW : w.heap.size ≤ W.heap.size := Nat.le_trans HB.out.size E.up.size
    rcases (show i = 0 ∨ i = 1 ∨ i = 2 ∨ i = 3 ∨ i = 4 ∨ i = 5 ∨ i = 6 ∨ i = 7 ∨ i = 8 ∨ i = 9 ∨ i = 10 ∨ i = 11 by omega) with rfl | rfl | rfl | rfl | rfl | rfl | rfl | rfl | rfl | rfl | rfl | rfl
    · -- 0: fieldAddr 33 t1 7
      refine mono_at (by rfl) rfl ?_
      have e1 : ρ (.tmp 1) = .pointer (some ⟨w.heap.size, 0, none⟩) := E.old 1 rfl
      exact mo_field (j' := 17) rfl e1 (fun w => by kernel_rfl) ⟨Below.refl _ _, rfl⟩
    · -- 1: fieldAddr 31 t36 0
      refine mono_at (by rfl) rfl ?_
      have e36 : ρ (.tmp 36) = .pointer (some ⟨w.heap.size, 17, none⟩) := E.dep 0 (by kernel_rfl)
      exact mo_field (j' := 17) rfl e36 (fun w => by kernel_rfl) ⟨Below.refl _ _, rfl⟩
    · -- 2: load 22 t37
      refine mono_at (by rfl) rfl ?_
      have e37 : ρ (.tmp 37) = .pointer (some ⟨w.heap.size, 17, none⟩) := E.dep 1 (by kernel_rfl)
      exact mo_load1 rfl e37 (((Lib.cell_of_heap (has_below HK.out E.up) 17).trans C17.out)) (fun w => by kernel_rfl) ⟨Below.refl _ _, rfl⟩
    · -- 3: call { value (Operand.func 27), args := #[t38], argTypes := 
      refine mono_at (by rfl) rfl ?_
      have e38 : ρ (.tmp 38) = sv nn := E.dep 2 (by kernel_rfl)
      refine mo_call rfl (E.fn _) (fun _ _ => by kernel_rfl) (args := #[sv nn]) (by simp only [List.map_toArray, List.map_cons, List.map_nil, List.length_cons, List.length_nil, Nat.reduceAdd, E.cst, e38]) ?_
      exact putintM (HN.out.below E.up) hc1 hc2 (by omega) hbW
    · -- 4: call { value (Operand.func 26), args := #[const (2:u8), t39]
      refine mono_at (by rfl) rfl ?_
      obtain ⟨A39, n39, c39, e39, o39⟩ : (MR.own (w.heap.size) (putI nb)).p (ρ (.tmp 39)) W := E.dep 3 (by kernel_rfl)
      refine mo_call rfl (E.fn _) (fun _ _ => by kernel_rfl) (args := #[.int .u8 2, .slice A39 n39 c39]) (by simp only [List.map_toArray, List.map_cons, List.map_nil, List.length_cons, List.length_nil, Nat.reduceAdd, E.cst, e39]) ?_
      exact writeM 2 o39.rb (by omega) hbW
    · -- 5: move t4
      refine mono_at (by rfl) rfl ?_
      have e4 : ρ (.tmp 4) = .slice (some ⟨w2.heap.size, 0, none⟩) 1 1 := E.old 4 rfl
      exact mo_move rfl ⟨Below.refl _ _, e4⟩
    · -- 6: indexAddr 56 t41 (const (0:i64))
      refine mono_at (by rfl) rfl ?_
      have e41 : ρ (.tmp 41) = .slice (some ⟨w2.heap.size, 0, none⟩) 1 1 := E.dep 5 (by kernel_rfl)
      exact mo_index rfl e41 (E.cst _) (run_index0 W w2.heap.size 1 1 (by omega)) ⟨Below.refl _ _, rfl⟩
    · -- 7: load 22 t42
      refine mono_at (by rfl) rfl ?_
      have e42 : ρ (.tmp 42) = .pointer (some ⟨w2.heap.size, 0, none⟩) := E.dep 6 (by kernel_rfl)
      exact mo_load1 rfl e42 (kp_cell E.up c4) (fun w => by kernel_rfl) ⟨Below.refl _ _, rfl⟩
    · -- 8: call { value (Operand.func 26), args := #[const (2:u8), t43]
      refine mono_at (by rfl) rfl ?_
      have e43 : ρ (.tmp 43) = .slice A1 n1 c1 := E.dep 7 (by kernel_rfl)
      refine mo_call rfl (E.fn _) (fun _ _ => by kernel_rfl) (args := #[.int .u8 2, .slice A1 n1 c1]) (by simp only [List.map_toArray, List.map_cons, List.map_nil, List.length_cons, List.length_nil, Nat.reduceAdd, E.cst, e43]) ?_
      exact writeM 2 (HO1.out.rb.below E.up) (by omega) hbW
    · -- 9: buildSlice 56 2 #[(0, t40), (1, t44)]
      refine mono_at (by rfl) rfl ?_
      obtain ⟨A40, n40, c40, e40, o40⟩ : (MR.own (w.heap.size) (wrQ 2 (putI nb))).p (ρ (.tmp 40)) W := E.dep 4 (by kernel_rfl)
      obtain ⟨A44, n44, c44, e44, o44⟩ : (MR.own (w.heap.size) (wrQ 2 (putI (e5 e)))).p (ρ (.tmp 44)) W := E.dep 8 (by kernel_rfl)
      exact mo_rows [(A40, n40, c40, wrQ 2 (putI nb)), (A44, n44, c44, wrQ 2 (putI (e5 e)))] 2 rfl (vs := [(0, .slice A40 n40 c40), (1, .slice A44 n44 c44)]) (by simp only [List.map_toArray, List.map_cons, List.map_nil, E.cst, e40, e44]) (by kernel_rfl) rfl (by omega) (by omega) (all1R o40.rb (all1R o44.rb all0R))
    · -- 10: call { value (Operand.func 28), args := #[t45], argTypes := 
      refine mono_at (by rfl) rfl ?_
      obtain ⟨A45, l45, e45, r45, m45⟩ : (MR.rows [wrQ 2 (putI nb), wrQ 2 (putI (e5 e))]).p (ρ (.tmp 45)) W := E.dep 9 (by kernel_rfl)
      refine mo_call rfl (E.fn _) (fun _ _ => by kernel_rfl) (args := #[.slice A45 2 2]) (by simp only [List.map_toArray, List.map_cons, List.map_nil, List.length_cons, List.length_nil, Nat.reduceAdd, E.cst, e45]) ?_
      exact seqM r45 m45 rfl (by omega) (Nat.le_trans HP.out (by omega)) hbW
    · -- 11: assign t46
      refine mono_at (by rfl) rfl ?_
      obtain ⟨A46, n46, c46, e46, o46⟩ : (MR.own (w.heap.size) (wrQ 48 [wrQ 2 (putI nb), wrQ 2 (putI (e5 e))].flatten)).p (ρ (.tmp 46)) W := E.dep 10 (by kernel_rfl)
      exact mo_assign rfl ⟨Below.refl _ _, _, _, _, e46, o46⟩
  · intro u W hbU hR
    obtain ⟨B46, m46, k46, hu46, ho46⟩ : (MR.own (w.heap.size) (wrQ 48 [wrQ 2 (putI nb), wrQ 2 (putI (e5 e))].flatten)).p (u 10) W := hR 10 (by decide)
    obtain ⟨B5, m5, k5, hu5, ho5⟩ : (MR.own (w.heap.size) (wrQ 48 [wrQ 2 (putI nb), wrQ 2 (putI (e5 e))].flatten)).p (u 11) W := hR 11 (by decide)
    clear hR
    simp only [lay, Nat.reduceAdd, List.setIfInBounds_toArray, List.set_cons_zero, List.set_cons_succ, hu46, hu5]
    clear hu46 hu5
    have HM5 := Lib.hid (show m5 ≤ 20100 by rw [← ho5.len]; have h1 := HP.out; have h2 := wrQ_len 48 [wrQ 2 (putI nb), wrQ 2 (putI (e5 e))].flatten (by omega); omega)
    clear ho46 C17 c4 hp1 hp2 hp3 hp4 hp5 HO1
    replace HI := Lib.hid (HI.out.below hbU)
    replace HS := Lib.hid (HS.out.below hbU)
    replace HR := Lib.hid (HR.out.below hbU)
    replace HN := Lib.hid (HN.out.below hbU)
    replace HK := Lib.hid (has_below HK.out hbU)
    replace HB := Lib.hid (kp_call HB.out hbU)
    have HO5 := Lib.hid (ho5)
    clear ho5 hbU
    have hm5 := HM5.out
    go_wp2_with (at_builtin; refine wpList_apn _ _ rfl rfl rfl w.heap.size (some ⟨W.heap.size, 0, none⟩) 1 1 [0] rfl ((own_lit W [0] 1 _ rfl rfl (by omega)).lower HB.out.size) B5 m5 k5 _ rfl (HO5.out.rb.alloc _) (by omega) (by have := HB.out.size; simp; omega) ?_)
    intro A6 c6 w6 ho6 hg6
    have hb6 : Below W.heap.size W w6 := (kp_alloc (Below.refl _ _) _).grown hg6 (by simp) (by intro k hk; cases hk; exact Nat.le_refl _)
    replace HI := Lib.hid (HI.out.below hb6)
    replace HS := Lib.hid (HS.out.below hb6)
    replace HR := Lib.hid (HR.out.below hb6)
    replace HN := Lib.hid (HN.out.below hb6)
    replace HK := Lib.hid (has_below HK.out hb6)
    replace HB := Lib.hid (kp_call HB.out hb6)
    replace HO5 := Lib.hid (HO5.out.below hb6 (Nat.le_refl _))
    have HO6 := Lib.hid (ho6)
    clear ho6 hg6 hb6 HO5 hm5
    have kc := fun (w : World) (C : Array Value) (n c : Nat) => Lib.run_convert_bytes_const (P := Try.prog) w 22 5 C n c Try.underlying22 Try.underlying5
    go_upto_region 6 with (fail)
    go_cut [7] from 51 (fun v7 wx => ∃ A7 n7 c7 l7, v7 = .slice A7 n7 c7 ∧ Hid (∀ W, RowsO W w6.heap.size A7 n7 c7 l7) ∧ Hid (l7.map (·.2.2.2) = []) ∧ w6 = wx)
    case first => go_wp2; go_meet; exact ⟨none, 0, 0, [], rfl, Lib.hid (fun _ => RowsO.nil _ _), Lib.hid rfl, rfl⟩
    obtain ⟨A7, n7, c7, l7, rfl, HR70, HL7, hwc⟩ := hcut
    have HR7 := Lib.hid (HR70.out w6)
    subst hwc
    have C20 : Hid (CC[20]? = some (.bool ca)) := by rw [← HCC.out]; exact Lib.hid rfl
    have C21 : Hid (CC[21]? = some (.int .i64 (pathI path))) := by rw [← HCC.out]; exact Lib.hid rfl
    have C22 : Hid (CC[22]? = some (.int .i64 (usI us))) := by rw [← HCC.out]; exact Lib.hid rfl
    have C23 : Hid (CC[23]? = some (.bool code)) := by rw [← HCC.out]; exact Lib.hid rfl
    have c20 : w6.cell? ⟨w.heap.size, 20, none⟩ = some (.bool ca) := (Lib.cell_of_heap HK.out 20).trans C20.out
    go_upto_if 52 with (fail)
    clear c20
    go_cut [7, 8] from 53 (fun v7 v8 wx => ∃ A7 n7 c7 l7, v7 = .slice A7 n7 c7 ∧ Hid (RowsO wx w6.heap.size A7 n7 c7 l7) ∧ Hid (l7.map (·.2.2.2) = pc1 ca path) ∧ Hid (Below w6.heap.size w6 wx))
    case first =>
      cases ca with
      | false =>
        go_wp2
        go_meet
        exact ⟨A7, n7, c7, l7, rfl, HR7, HL7, Lib.hid (Below.refl _ _)⟩
      | true =>
        as_aux_lemma =>
        cases path with
        | none =>
          have HBX := Lib.hid (Below.refl w6.heap.size w6)
          have c21 : ∀ o1, (w6.alloc o1).cell? ⟨w.heap.size, 21, none⟩ = some (.int .i64 (-1)) := fun o1 => (Lib.cell_of_heap (has_alloc HK.out o1) 21).trans C21.out
          have c21b := fun o1 o2 => (kp_cell (kp_alloc (Below.refl (w6.alloc o1).heap.size (w6.alloc o1)) o2) (c21 o1))
          clear c21
          go_wp2_with fail
          refine calls_nm fun w7 hw7 => ?_
          have hbw7 : Below w6.heap.size w6 w7 := by rw [← hw7]; exact kp_alloc (kp_alloc (Below.refl _ _) _) _
          replace HR7 := Lib.hid (HR7.out.below hbw7)
          replace HBX := Lib.hid (kp_call HBX.out hbw7)
          have HM := Lib.hid (show RowsP w7 (some ⟨w6.heap.size + 1, 0, none⟩) [(some ⟨w6.heap.size, 0, none⟩, 3, 3, [1, 1, 255])] by
            rw [← hw7]
            have h9 := RowsP.new (w := w6.alloc (.cells #[.int .u8 1, .int .u8 1, .int .u8 255] 5 (3, 4))) (cs := #[.slice (some ⟨w6.heap.size, 0, none⟩) 3 3]) (t := 22) (l := [(some ⟨w6.heap.size, 0, none⟩, 3, 3, [1, 1, 255])]) rfl (all1R (rb_newM w6 [1, 1, 255] _ _ _ rfl 3 rfl) all0R)
            simpa using h9)
          clear hw7 hbw7 c21b
          refine (seq_any _ 1 1 _ w7 HM.out rfl (by omega) (by simp [flatR])).mono ?_
          rintro e' w8 ⟨A8, n8, c8, rfl, ho, hb⟩
          have HO8 := Lib.hid (show OwnB w8 w6.heap.size A8 n8 c8 (wrQ 48 (basB none)) by have h9 := ho.lower (base' := w6.heap.size) HBX.out.size; rw [flat_map] at h9; rw [← bas_none]; exact h9)
          have hn8 : n8 ≤ 100 := by rw [← HO8.out.len]; decide +kernel
          replace HR7 := Lib.hid (HR7.out.below hb)
          replace HBX := Lib.hid (kp_call HBX.out hb)
          clear ho hb HM
          go_wp2_with fail
          refine (ext_any ⟨#[85, 29, 19]⟩ A8 n8 c8 (wrQ 48 (basB none)) _ HO8.out.rb (by decide) (by omega)).mono ?_
          rintro e' wx1 ⟨AX, nX, cX, rfl, ho, hb⟩
          have HOX := Lib.hid (ho.lower (base' := w6.heap.size) HBX.out.size)
          replace HR7 := Lib.hid (HR7.out.below hb)
          replace HBX := Lib.hid (kp_call HBX.out hb)
          clear ho hb HO8
          have h7 : n7 ≤ 1000 := by
            have h8 := HR7.out.len
            have h9 := congrArg List.length HL7.out
            rw [List.length_map, h8] at h9
            rw [h9]
            simp
          go_wp2_with (at_builtin; refine wpList_ap1 _ _ rfl rfl rfl w6.heap.size A7 n7 c7 l7 rfl HR7.out (AX, nX, cX, extB [85, 29, 19] (wrQ 48 (basB none))) _ rfl rfl HOX.out h7 HBX.out.size ?_)
          intro AY cY wx2 hoY hgY
          have HBY := Lib.hid ((kp_alloc HBX.out _).grown hgY (by have := HBX.out.size; simp at this ⊢; omega) (fun g hg => (HR7.out.own.blk_lt hg).1))
          go_wp2
          go_meet
          exact ⟨AY, n7 + 1, cY, _, rfl, Lib.hid hoY, Lib.hid (by rw [List.map_append, HL7.out, pc1_yes]; simp only [List.map_cons, List.map_nil, List.nil_append]), HBY⟩
        | some p =>
          have HBX := Lib.hid (Below.refl w6.heap.size w6)
          have bp := p.toNat_lt
          have c21 : ∀ o1, (w6.alloc o1).cell? ⟨w.heap.size, 21, none⟩ = some (.int .i64 (p.toNat : Int)) := fun o1 => (Lib.cell_of_heap (has_alloc HK.out o1) 21).trans C21.out
          have c21b := fun o1 o2 => (kp_cell (kp_alloc (Below.refl (w6.alloc o1).heap.size (w6.alloc o1)) o2) (c21 o1))
          clear c21
          have q1 : decide ((0 : Int) ≤ (p.toNat : Int)) = true := by simp
          go_wp2_with fail
          refine calls_nm fun w7 hw7 => ?_
          have hbw7 : Below w6.heap.size w6 w7 := by rw [← hw7]; exact kp_alloc (kp_alloc (kp_alloc (Below.refl _ _) _) _) _
          replace HR7 := Lib.hid (HR7.out.below hbw7)
          replace HBX := Lib.hid (kp_call HBX.out hbw7)
          have HMr := Lib.hid (show w7.heap[w6.heap.size]? = some (.cells ([1, 1, 255].map bv).toArray 5 (3, 4)) by rw [← hw7]; exact has_alloc (has_alloc (has_new _ _) _) _)
          have HMo := Lib.hid (show OwnR w7 w6.heap.size 22 1 (some ⟨w6.heap.size + 1, 0, none⟩) 1 1 [.slice (some ⟨w6.heap.size, 0, none⟩) 3 3] by
            rw [← hw7]
            refine OwnR.alloc ?_ _
            have h9 := (OwnR.lit (w6.alloc (.cells #[.int .u8 1, .int .u8 1, .int .u8 255] 5 (3, 4))) 22 1 #[.slice (some ⟨w6.heap.size, 0, none⟩) 3 3] 1 (by unfold maxLen; omega) rfl).lower (base' := w6.heap.size) (by simp)
            simpa using h9)
          have HP := Lib.hid (show OwnB w7 w6.heap.size (some ⟨w6.heap.size + 2, 0, none⟩) 1 1 [p] by
            rw [← hw7]
            have h9 := (own_lit ((w6.alloc (.cells #[.int .u8 1, .int .u8 1, .int .u8 255] 5 (3, 4))).alloc (.cells #[.slice (some ⟨w6.heap.size, 0, none⟩) 3 3] 22)) [p] 1 #[.int .u8 (p.toNat : Int)] rfl rfl (by omega)).lower (base' := w6.heap.size) (by simp; omega)
            simpa using h9)
          clear hw7 hbw7 c21b q1
          have hq1 := putI_len [p]
          have hq2 := wrQ_len 2 (putI [p]) (by simp only [List.length_cons, List.length_nil] at hq1; omega)
          simp only [List.length_cons, List.length_nil] at hq1
          refine (rputint_any _ 1 1 [p] w7 HP.out.rb (by omega) (by omega) (by omega)).mono ?_
          rintro e' w8 ⟨A8, n8, c8, rfl, ho, hb⟩
          have hn8 : n8 ≤ 2 := by have := ho.len; omega
          have HO8 := Lib.hid (ho.lower (base' := w6.heap.size) HBX.out.size)
          replace HR7 := Lib.hid (HR7.out.below hb)
          replace HBX := Lib.hid (kp_call HBX.out hb)
          replace HMr := Lib.hid (has_below HMr.out hb)
          replace HMo := Lib.hid (HMo.out.below hb (Nat.le_refl _))
          clear ho hb HP
          go_wp2_with fail
          refine (rwrite_any 2 A8 n8 c8 _ w8 HO8.out.rb (by omega)).mono ?_
          rintro e' w9 ⟨A9, n9, c9, rfl, ho, hb⟩
          have HO9 := Lib.hid (ho.lower (base' := w6.heap.size) HBX.out.size)
          replace HR7 := Lib.hid (HR7.out.below hb)
          replace HBX := Lib.hid (kp_call HBX.out hb)
          replace HMr := Lib.hid (has_below HMr.out hb)
          replace HMo := Lib.hid (HMo.out.below hb (Nat.le_refl _))
          clear ho hb HO8
          go_wp2_with (at_builtin; refine wpList_appL rows_row9 _ _ rfl rfl rfl w6.heap.size _ 1 1 _ rfl (HMo.out.alloc _) w9.heap.size 1 1 #[.slice A9 n9 c9] (0, 0) rfl (has_new _ _) rfl (by intro u hu; simp at hu; subst hu; rfl) (by unfold maxLen; omega) (by omega) (by have := HBX.out.size; simp; omega) ?_)
          intro AM cM w10 hoM hgM
          have hlM := block_lt HMr.out
          have HM := Lib.hid (show RowsP w10 AM [(some ⟨w6.heap.size, 0, none⟩, 3, 3, [1, 1, 255]), (A9, n9, c9, wrQ 2 (putI [p]))] from ⟨hoM.reads, all1R (lit_rb (bs := [1, 1, 255]) ((hgM.block _ (by simp; omega) (by simp [blk])).trans (has_alloc HMr.out _))) (all1R (kept_rows HO9.out HMo.out hgM).rb all0R)⟩)
          replace HBX := Lib.hid ((kp_alloc HBX.out _).grown hgM (by have := HBX.out.size; simp; omega) (by intro k hk; cases hk; exact Nat.le_add_right _ _))
          replace HR7 := Lib.hid (show RowsO w10 w6.heap.size A7 n7 c7 l7 from HR70.out w10)
          clear hoM hgM hlM HMr HMo HO9
          go_wp2_with fail
          refine (seq_any _ 2 cM _ w10 HM.out rfl (by omega) (by rw [flat_map]; simp only [List.map_cons, List.map_nil, List.flatten_cons, List.flatten_nil, List.append_nil, List.length_append, List.length_cons, List.length_nil]; omega)).mono ?_
          rintro e' w11 ⟨A8, n8, c8, rfl, ho, hb⟩
          have HO8 := Lib.hid (show OwnB w11 w6.heap.size A8 n8 c8 (wrQ 48 (basB (some p))) by have h9 := ho.lower (base' := w6.heap.size) HBX.out.size; rw [flat_map] at h9; rw [← bas_some]; exact h9)
          have hn8 : n8 ≤ 200 := by rw [← HO8.out.len]; have h8 := basB_len (some p); have h9 := wrQ_len 48 (basB (some p)) (by omega); omega
          replace HR7 := Lib.hid (HR7.out.below hb)
          replace HBX := Lib.hid (kp_call HBX.out hb)
          clear ho hb HM
          go_wp2_with fail
          refine (ext_any ⟨#[85, 29, 19]⟩ A8 n8 c8 (wrQ 48 (basB (some p))) _ HO8.out.rb (by decide) (by omega)).mono ?_
          rintro e' wx1 ⟨AX, nX, cX, rfl, ho, hb⟩
          have HOX := Lib.hid (ho.lower (base' := w6.heap.size) HBX.out.size)
          replace HR7 := Lib.hid (HR7.out.below hb)
          replace HBX := Lib.hid (kp_call HBX.out hb)
          clear ho hb HO8
          have h7 : n7 ≤ 1000 := by
            have h8 := HR7.out.len
            have h9 := congrArg List.length HL7.out
            rw [List.length_map, h8] at h9
            rw [h9]
            simp
          go_wp2_with (at_builtin; refine wpList_ap1 _ _ rfl rfl rfl w6.heap.size A7 n7 c7 l7 rfl HR7.out (AX, nX, cX, extB [85, 29, 19] (wrQ 48 (basB (some p)))) _ rfl rfl HOX.out h7 HBX.out.size ?_)
          intro AY cY wx2 hoY hgY
          have HBY := Lib.hid ((kp_alloc HBX.out _).grown hgY (by have := HBX.out.size; simp at this ⊢; omega) (fun g hg => (HR7.out.own.blk_lt hg).1))
          go_wp2
          go_meet
          exact ⟨AY, n7 + 1, cY, _, rfl, Lib.hid hoY, Lib.hid (by rw [List.map_append, HL7.out, pc1_yes]; simp only [List.map_cons, List.map_nil, List.nil_append]), HBY⟩
    clear HR70
    obtain ⟨A7, n7, c7, l7, rfl, HR7, HL7, HBX⟩ := hcut
    obtain ⟨w12, rfl⟩ : ∃ x, x = wc := ⟨_, rfl⟩
    have c22 : w12.cell? ⟨w.heap.size, 22, none⟩ = some (.int .i64 (usI us)) := (Lib.cell_of_heap (has_below HK.out HBX.out) 22).trans C22.out
    go_upto_if 76 with (fail)
    clear c22
    go_cut [7] from 77 (fun v7 wx => ∃ A7 n7 c7 l7, v7 = .slice A7 n7 c7 ∧ Hid (RowsO wx w6.heap.size A7 n7 c7 l7) ∧ Hid (l7.map (·.2.2.2) = pc1 ca path ++ pc2 us) ∧ Hid (Below w6.heap.size w6 wx))
    case first =>
      as_aux_lemma =>
      cases us with
      | none =>
        go_wp2
        go_meet
        exact ⟨A7, n7, c7, l7, rfl, HR7, Lib.hid (by rw [HL7.out]; simp [pc2]), HBX⟩
      | some v =>
        obtain ⟨hv0, hv1⟩ := HU.out v rfl
        have c22 : w12.cell? ⟨w.heap.size, 22, none⟩ = some (.int .i64 (v : Int)) := (Lib.cell_of_heap (has_below HK.out HBX.out) 22).trans C22.out
        have q1 : decide ((0 : Int) ≤ (v : Int)) = true := by simp
        simp only [usI] at *
        have hul := usB_len v hv1
        have hul2 := wrQ_len 3 (usB v) (by omega)
        go_wp2_with fail
        refine (usagebits_any v w12 (by omega)).mono ?_
        rintro e' w13 ⟨A8, n8, c8, rfl, ho, hb⟩
        have hn8 : n8 ≤ 200 := by rw [← ho.len]; omega
        have HO8 := Lib.hid (ho.lower (base' := w6.heap.size) HBX.out.size)
        replace HR7 := Lib.hid (HR7.out.below hb)
        replace HBX := Lib.hid (kp_call HBX.out hb)
        clear ho hb c22
        go_wp2_with fail
        refine (ext_any ⟨#[85, 29, 15]⟩ A8 n8 c8 (wrQ 3 (usB v)) _ HO8.out.rb (by decide) (by omega)).mono ?_
        rintro e' wx1 ⟨AX, nX, cX, rfl, ho, hb⟩
        have HOX := Lib.hid (ho.lower (base' := w6.heap.size) HBX.out.size)
        replace HR7 := Lib.hid (HR7.out.below hb)
        replace HBX := Lib.hid (kp_call HBX.out hb)
        clear ho hb HO8
        have h7 : n7 ≤ 1000 := by
          have h8 := HR7.out.len
          have h9 := congrArg List.length HL7.out
          rw [List.length_map, h8] at h9
          rw [h9]
          have := pc1_len ca path; omega
        go_wp2_with (at_builtin; refine wpList_ap1 _ _ rfl rfl rfl w6.heap.size A7 n7 c7 l7 rfl HR7.out (AX, nX, cX, extB [85, 29, 15] (wrQ 3 (usB v))) _ rfl rfl HOX.out h7 HBX.out.size ?_)
        intro AY cY wx2 hoY hgY
        have HBY := Lib.hid ((kp_alloc HBX.out _).grown hgY (by have := HBX.out.size; simp at this ⊢; omega) (fun g hg => (HR7.out.own.blk_lt hg).1))
        go_wp2
        go_meet
        exact ⟨AY, n7 + 1, cY, _, rfl, Lib.hid hoY, Lib.hid (by rw [List.map_append, HL7.out, pc2_some]; simp only [List.map_cons, List.map_nil, List.nil_append]), HBY⟩
    obtain ⟨A7, n7, c7, l7, rfl, HR7, HL7, HBX⟩ := hcut
    obtain ⟨w20, rfl⟩ : ∃ x, x = wc := ⟨_, rfl⟩
    have c23 : w20.cell? ⟨w.heap.size, 23, none⟩ = some (.bool code) := (Lib.cell_of_heap (has_below HK.out HBX.out) 23).trans C23.out
    go_upto_if 86 with (fail)
    clear c23
    go_cut [7] from 87 (fun v7 wx => ∃ A7 n7 c7 l7, v7 = .slice A7 n7 c7 ∧ Hid (RowsO wx w6.heap.size A7 n7 c7 l7) ∧ Hid (l7.map (·.2.2.2) = (pc1 ca path ++ pc2 us) ++ pc3 code) ∧ Hid (Below w6.heap.size w6 wx))
    case first =>
      as_aux_lemma =>
      cases code with
      | true =>
        go_wp2
        go_meet
        exact ⟨A7, n7, c7, l7, rfl, HR7, Lib.hid (by rw [HL7.out]; simp [pc3]), HBX⟩
      | false =>
        go_upto_region 15 with (fail)
        refine wp_region_lit ?_
        refine wpList_val rfl (by rfl) ?_
        refine wpList_bytes [43, 6, 1, 5, 5, 7, 3, 1] 8 rfl rfl _ (by simp only [List.map_toArray, List.map_cons, List.map_nil, Act.eval]) fill_host (by omega) (by omega) ?_
        simp only [Act.put, List.setIfInBounds_toArray, List.set_cons_zero, List.set_cons_succ]
        go_wp2_with fail
        refine calls_nm fun w21 hw21 => ?_
        have hbw21 : Below w20.heap.size w20 w21 := by rw [← hw21]; exact kp_alloc (Below.refl _ _) _
        replace HR7 := Lib.hid (HR7.out.below hbw21)
        replace HBX := Lib.hid (kp_call HBX.out hbw21)
        have HL := Lib.hid (show RB w21 (some ⟨w20.heap.size, 0, none⟩) 8 [43, 6, 1, 5, 5, 7, 3, 1] by rw [← hw21]; exact rb_newM w20 [43, 6, 1, 5, 5, 7, 3, 1] _ _ _ rfl 8 rfl)
        clear hw21 hbw21
        refine (rwrite_any 6 _ 8 8 _ w21 HL.out (by omega)).mono ?_
        rintro e' w22 ⟨A8, n8, c8, rfl, ho, hb⟩
        have HO8 := Lib.hid (ho.lower (base' := w6.heap.size) HBX.out.size)
        replace HR7 := Lib.hid (HR7.out.below hb)
        replace HBX := Lib.hid (kp_call HBX.out hb)
        clear ho hb HL
        go_wp2_with fail
        refine (seq_any (some ⟨w22.heap.size, 0, none⟩) 1 1 [(A8, n8, c8, wrQ 6 [43, 6, 1, 5, 5, 7, 3, 1])] _ (RowsP.new rfl (all1R HO8.out.rb all0R)) rfl (by omega) (by rw [flat_map]; simp only [List.map_cons, List.map_nil, List.flatten_cons, List.flatten_nil, List.append_nil]; decide +kernel)).mono ?_
        rintro e' w23 ⟨A9, n9, c9, rfl, ho, hb⟩
        have HBS := Lib.hid (kp_alloc HBX.out (.cells #[.slice A8 n8 c8] 22))
        have HO9 := Lib.hid (show OwnB w23 w6.heap.size A9 n9 c9 (wrQ 48 codB) by have h9 := ho.lower (base' := w6.heap.size) HBS.out.size; rw [flat_map] at h9; rw [codB_is]; simpa only [List.map_cons, List.map_nil, List.flatten_cons, List.flatten_nil, List.append_nil] using h9)
        replace HBX := Lib.hid (kp_call HBS.out hb)
        replace HR7 := Lib.hid ((HR7.out.below (kp_alloc (Below.refl _ _) _)).below hb)
        have hn9 : n9 ≤ 100 := by
          have h8 := HO9.out.len
          rw [← h8]
          decide +kernel
        clear ho hb HO8 HBS
        go_wp2_with fail
        refine (ext_any ⟨#[85, 29, 37]⟩ A9 n9 c9 (wrQ 48 codB) _ HO9.out.rb (by decide) (by omega)).mono ?_
        rintro e' wx1 ⟨AX, nX, cX, rfl, ho, hb⟩
        have HOX := Lib.hid (ho.lower (base' := w6.heap.size) HBX.out.size)
        replace HR7 := Lib.hid (HR7.out.below hb)
        replace HBX := Lib.hid (kp_call HBX.out hb)
        clear ho hb HO9
        have h7 : n7 ≤ 1000 := by
          have h8 := HR7.out.len
          have h9 := congrArg List.length HL7.out
          rw [List.length_map, h8] at h9
          rw [h9]
          have := pc1_len ca path; have := pc2_len us; rw [List.length_append]; omega
        go_wp2_with (at_builtin; refine wpList_ap1 _ _ rfl rfl rfl w6.heap.size A7 n7 c7 l7 rfl HR7.out (AX, nX, cX, extB [85, 29, 37] (wrQ 48 codB)) _ rfl rfl HOX.out h7 HBX.out.size ?_)
        intro AY cY wx2 hoY hgY
        have HBY := Lib.hid ((kp_alloc HBX.out _).grown hgY (by have := HBX.out.size; simp at this ⊢; omega) (fun g hg => (HR7.out.own.blk_lt hg).1))
        go_wp2
        go_meet
        exact ⟨AY, n7 + 1, cY, _, rfl, Lib.hid hoY, Lib.hid (by rw [List.map_append, HL7.out, pc3_no]; simp only [List.map_cons, List.map_nil, List.nil_append]), HBY⟩
    obtain ⟨A7, n7, c7, l7, rfl, HR7, HL7, HBX⟩ := hcut
    obtain ⟨w30, rfl⟩ : ∃ x, x = wc := ⟨_, rfl⟩
    have HX := Lib.hid (show l7.map (·.2.2.2) = (exL ca path us code).map (fun p => extB p.1 p.2) by rw [HL7.out, pc_all])
    have HN7 := Lib.hid HR7.out.len
    have hx3 := exL_len ca path us code
    have hn7 : n7 = (exL ca path us code).length := by
      have h9 := congrArg List.length HX.out
      rw [List.length_map, List.length_map, HN7.out] at h9
      exact h9
    have HNX := Lib.hid hn7
    have h73 : n7 ≤ 3 := by omega
    have hfx := exF_len _ (exL_fit ca path us code (fun v h => (HU.out v h).2))
    have HFX := Lib.hid (show (exF (exL ca path us code)).length ≤ 5000 by have := Nat.mul_le_mul_left 1118 hx3; omega)
    have HFL := Lib.hid (show flatR l7 = exF (exL ca path us code) by rw [flat_map, HX.out, exF_flat])
    clear hn7 hx3 hfx
    go_upto_region 16 with (fail)
    go_cut [98] from 96 (fun v98 wx => v98 = .bool (decide (0 < n7)) ∧ w30 = wx)
    case first =>
      go_wp2
      go_meet
      exact ⟨rfl, rfl⟩
    obtain ⟨rfl, hwc⟩ := hcut
    subst hwc
    go_upto_if 98 with (fail)
    go_cut [3] from 96 (fun v3 wx => ∃ A3 n3 c3, v3 = .slice A3 n3 c3 ∧ Hid (RB wx A3 n3 (exW (exL ca path us code))) ∧ Hid (Below w6.heap.size w6 wx))
    case first =>
      as_aux_lemma =>
      obtain h0 | h0 : n7 = 0 ∨ 0 < n7 := by omega
      · have q1 : decide (0 < n7) = false := decide_eq_false (by omega)
        have HE : Hid (exW (exL ca path us code) = []) := by
          have h9 := HNX.out
          rw [h0] at h9
          unfold Hid exW
          rw [if_pos (List.eq_nil_of_length_eq_zero h9.symm)]
        rw [q1]
        clear h0 q1
        go_wp2
        go_meet
        exact ⟨none, 0, 0, rfl, Lib.hid (by rw [HE.out]; exact ⟨rfl, fun h => absurd rfl h⟩), HBX⟩
      · have q1 : decide (0 < n7) = true := decide_eq_true (by omega)
        have HE : Hid (exW (exL ca path us code) = wrQ 163 (wrQ 48 (exF (exL ca path us code)))) := by
          have h9 := HNX.out
          unfold Hid exW
          rw [if_neg (fun h => by rw [h] at h9; simp at h9; omega)]
        rw [q1]
        clear h0 q1
        have hfx := HFX.out
        have hwx := wrQ_len 48 (exF (exL ca path us code)) (by omega)
        go_wp2_with fail
        refine (seq_any A7 n7 c7 l7 w30 HR7.out.rows HN7.out (by omega) (by rw [HFL.out]; omega)).mono ?_
        rintro e' w31 ⟨A8, n8, c8, rfl, ho, hb⟩
        have hn8 : n8 ≤ 6000 := by rw [← ho.len, HFL.out]; omega
        have HO8 := Lib.hid ho.rb
        replace HBX := Lib.hid (kp_call HBX.out hb)
        clear ho hb
        go_wp2_with fail
        refine (rwrite_any 163 A8 n8 c8 _ w31 HO8.out (by omega)).mono ?_
        rintro e' w32 ⟨A9, n9, c9, rfl, ho, hb⟩
        have HO9 := Lib.hid ho.rb
        replace HBX := Lib.hid (kp_call HBX.out hb)
        clear ho hb
        go_wp2
        go_meet
        exact ⟨A9, n9, c9, rfl, Lib.hid (by rw [HE.out, ← HFL.out]; exact HO9.out), HBX⟩
    obtain ⟨A3, n3, c3, rfl, HO3, HBX⟩ := hcut
    obtain ⟨w40, rfl⟩ : ∃ x, x = wc := ⟨_, rfl⟩
    clear HR7 HN7 HX HNX h73 HFL HL7
    replace HI := Lib.hid (HI.out.below HBX.out)
    replace HS := Lib.hid (HS.out.below HBX.out)
    replace HR := Lib.hid (HR.out.below HBX.out)
    replace HN := Lib.hid (HN.out.below HBX.out)
    replace HK := Lib.hid (has_below HK.out HBX.out)
    replace HB := Lib.hid (kp_call HB.out HBX.out)
    replace HO6 := Lib.hid (HO6.out.below HBX.out (Nat.le_refl _))
    go_upto_region 18 with (fail)
    have C4 : Hid (CC[4]? = some (sv ser)) := by rw [← HCC.out]; exact Lib.hid rfl
    have C2 : Hid (CC[2]? = some (sv iss)) := by rw [← HCC.out]; exact Lib.hid rfl
    have C3 : Hid (CC[3]? = some (sv sub)) := by rw [← HCC.out]; exact Lib.hid rfl
    have HTF : Hid (w40.rangeAt w.heap.size 5 f.cells.toList) := Lib.hid (fun j v hj => by
      have hlt : j < 6 := by have := (List.getElem?_eq_some_iff.1 hj).1; simpa [Tm.cells] using this
      rw [Lib.cell_of_heap HK.out (5 + j), ← HCC.out, ← hj]
      rcases (show j = 0 ∨ j = 1 ∨ j = 2 ∨ j = 3 ∨ j = 4 ∨ j = 5 by omega) with rfl | rfl | rfl | rfl | rfl | rfl <;> rfl)
    have HTT : Hid (w40.rangeAt w.heap.size 11 t.cells.toList) := Lib.hid (fun j v hj => by
      have hlt : j < 6 := by have := (List.getElem?_eq_some_iff.1 hj).1; simpa [Tm.cells] using this
      rw [Lib.cell_of_heap HK.out (11 + j), ← HCC.out, ← hj]
      rcases (show j = 0 ∨ j = 1 ∨ j = 2 ∨ j = 3 ∨ j = 4 ∨ j = 5 by omega) with rfl | rfl | rfl | rfl | rfl | rfl <;> rfl)
    have ZF : Hid (∀ W, Below w40.heap.size w40 W → W.rangeAt w.heap.size 5 f.cells.toList ∧ W.rangeAt w.heap.size 11 t.cells.toList) := Lib.hid (fun W hW => ⟨fun j v hj => kp_cell hW (HTF.out j v hj), fun j v hj => kp_cell hW (HTT.out j v hj)⟩)
    clear HTF HTT
    have hfx := HFX.out
    have hsp := spanB_len f t
    have hsk := spkB_len nb e (by omega)
    have hxw := exW_len _ (exL_len ca path us code) (exL_fit ca path us code (fun v h => (HU.out v h).2))
    have hw2 := wrQ_len 2 rb (by omega)
    have hwf : [wrQ 24 (textB f), wrQ 24 (textB t)].flatten = spanB f t := by simp [spanB]
    have hwk : wrQ 48 [wrQ 2 (putI nb), wrQ 2 (putI (e5 e))].flatten = wrQ 48 (keyB nb e) := by simp [keyB]
    have hwk2 : [[48, 13, 6, 9, 42, 134, 72, 134, 247, 13, 1, 1, 1, 5, 0], wrQ 3 (0 :: wrQ 48 (keyB nb e))].flatten = spkB nb e := by
      show [48, 13, 6, 9, 42, 134, 72, 134, 247, 13, 1, 1, 1, 5, 0] ++ (wrQ 3 (0 :: wrQ 48 (keyB nb e)) ++ []) = _
      rw [List.append_nil]
      unfold spkB
      rw [show ([48, 13, 6, 9, 42, 134, 72, 134, 247, 13, 1, 1, 1, 5, 0] : List UInt8) = wrQ 48 rsaB by decide +kernel]
    have hk1 := keyB_len nb e (by omega)
    have hk2 := wrQ_len 48 (keyB nb e) (by omega)
    have HSP := Lib.hid (show [wrQ 24 (textB f), wrQ 24 (textB t)].flatten.length ≤ 1000000 by rw [hwf]; omega)
    have HSK := Lib.hid (show [[48, 13, 6, 9, 42, 134, 72, 134, 247, 13, 1, 1, 1, 5, 0], wrQ 3 (0 :: wrQ 48 (keyB nb e))].flatten.length ≤ 1000000 by rw [hwk2]; omega)
    have hws := wrQ_len 48 (spanB f t) (by omega)
    have hwq := wrQ_len 48 (spkB nb e) (by omega)
    have HWF := Lib.hid hwf
    have HWK := Lib.hid hwk2
    replace HO6 := Lib.hid (show OwnB w40 w.heap.size A6 (1 + m5) c6 (0 :: wrQ 48 (keyB nb e)) by first | exact HO6.out | (rw [← hwk]; exact HO6.out))
    have HALL := Lib.hid (show [[160, 3, 2, 1, 2], wrQ 2 rb, [48, 13, 6, 9, 42, 134, 72, 134, 247, 13, 1, 1, 11, 5, 0], ib, wrQ 48 [wrQ 24 (textB f), wrQ 24 (textB t)].flatten, sb, wrQ 48 [[48, 13, 6, 9, 42, 134, 72, 134, 247, 13, 1, 1, 1, 5, 0], wrQ 3 (0 :: wrQ 48 (keyB nb e))].flatten, exW (exL ca path us code)].flatten.length ≤ 1000000 by
      rw [HWF.out, HWK.out]
      simp only [List.flatten_cons, List.flatten_nil, List.length_append, List.length_cons, List.length_nil]
      omega)
    clear hwf hwk hwk2
    refine wp_region_mono (by kernel_rfl) (by kernel_rfl) [102, 103, 104, 105, 106, 107, 108, 109, 110, 111, 112, 113, 114, 115, 116, 117, 118, 119, 120, 121, 122, 123, 124, 125, 126, 127, 128, 129, 2] (by rfl) (by decide) (by rfl) (fun j => ([MR.lit (w40.heap.size) ([160, 3, 2, 1, 2]), MR.rb ([160, 3, 2, 1, 2]), MR.eq (.pointer (some ⟨w.heap.size, 4, none⟩)), MR.eq (sv ser), MR.rb (wrQ 2 rb), MR.lit (w40.heap.size) ([48, 13, 6, 9, 42, 134, 72, 134, 247, 13, 1, 1, 11, 5, 0]), MR.rb ([48, 13, 6, 9, 42, 134, 72, 134, 247, 13, 1, 1, 11, 5, 0]), MR.eq (.pointer (some ⟨w.heap.size, 2, none⟩)), MR.eq (sv iss), MR.eq (.pointer (some ⟨w.heap.size, 5, none⟩)), MR.eq (tmV f), MR.rb (wrQ 24 (textB f)), MR.eq (.pointer (some ⟨w.heap.size, 11, none⟩)), MR.eq (tmV t), MR.rb (wrQ 24 (textB t)), MR.rows [wrQ 24 (textB f), wrQ 24 (textB t)], MR.rb (wrQ 48 [wrQ 24 (textB f), wrQ 24 (textB t)].flatten), MR.eq (.pointer (some ⟨w.heap.size, 3, none⟩)), MR.eq (sv sub), MR.lit (w40.heap.size) ([48, 13, 6, 9, 42, 134, 72, 134, 247, 13, 1, 1, 1, 5, 0]), MR.rb ([48, 13, 6, 9, 42, 134, 72, 134, 247, 13, 1, 1, 1, 5, 0]), MR.eq (.slice A6 (1 + m5) c6), MR.rb (wrQ 3 (0 :: wrQ 48 (keyB nb e))), MR.rows [[48, 13, 6, 9, 42, 134, 72, 134, 247, 13, 1, 1, 1, 5, 0], wrQ 3 (0 :: wrQ 48 (keyB nb e))], MR.rb (wrQ 48 [[48, 13, 6, 9, 42, 134, 72, 134, 247, 13, 1, 1, 1, 5, 0], wrQ 3 (0 :: wrQ 48 (keyB nb e))].flatten), MR.eq (.slice A3 n3 c3), MR.rows [[160, 3, 2, 1, 2], wrQ 2 rb, [48, 13, 6, 9, 42, 134, 72, 134, 247, 13, 1, 1, 11, 5, 0], ib, wrQ 48 [wrQ 24 (textB f), wrQ 24 (textB t)].flatten, sb, wrQ 48 [[48, 13, 6, 9, 42, 134, 72, 134, 247, 13, 1, 1, 1, 5, 0], wrQ 3 (0 :: wrQ 48 (keyB nb e))].flatten, exW (exL ca path us code)], MR.own (w.heap.size) (wrQ 48 [[160, 3, 2, 1, 2], wrQ 2 rb, [48, 13, 6, 9, 42, 134, 72, 134, 247, 13, 1, 1, 11, 5, 0], ib, wrQ 48 [wrQ 24 (textB f), wrQ 24 (textB t)].flatten, sb, wrQ 48 [[48, 13, 6, 9, 42, 134, 72, 134, 247, 13, 1, 1, 1, 5, 0], wrQ 3 (0 :: wrQ 48 (keyB nb e))].flatten, exW (exL ca path us code)].flatten), MR.own (w.heap.size) (wrQ 48 [[160, 3, 2, 1, 2], wrQ 2 rb, [48, 13, 6, 9, 42, 134, 72, 134, 247, 13, 1, 1, 11, 5, 0], ib, wrQ 48 [wrQ 24 (textB f), wrQ 24 (textB t)].flatten, sb, wrQ 48 [[48, 13, 6, 9, 42, 134, 72, 134, 247, 13, 1, 1, 1, 5, 0], wrQ 3 (0 :: wrQ 48 (keyB nb e))].flatten, exW (exL ca path us code)].flatten)] : List MR).getD j MR.any) [1, 6, 20] [[], [0], [], [2], [2, 3], [], [5], [], [7], [], [9], [9, 10], [], [12], [12, 13], [9, 10, 11, 12, 13, 14], [9, 10, 11, 12, 13, 14, 15], [], [17], [], [19], [], [21], [19, 20, 21, 22], [19, 20, 21, 22, 23], [], [0, 1, 2, 3, 4, 5, 6, 7, 8, 9, 10, 11, 12, 13, 14, 15, 16, 17, 18, 19, 20, 21, 22, 23, 24, 25], [0, 1, 2, 3, 4, 5, 6, 7, 8, 9, 10, 11, 12, 13, 14, 15, 16, 17, 18, 19, 20, 21, 22, 23, 24, 25, 26], [0, 1, 2, 3, 4, 5, 6, 7, 8, 9, 10, 11, 12, 13, 14, 15, 16, 17, 18, 19, 20, 21, 22, 23, 24, 25, 26, 27]] (by kernel_rfl) (by kernel_rfl) ?_ ?_
    · intro i hi ρ W E
      simp only [List.length_cons, List.length_nil] at hi
      have hbW : w.heap.size ≤ W.heap.size := Nat.le_trans HB.out.size E.up.size
      rcases (show i = 0 ∨ i = 1 ∨ i = 2 ∨ i = 3 ∨ i = 4 ∨ i = 5 ∨ i = 6 ∨ i = 7 ∨ i = 8 ∨ i = 9 ∨ i = 10 ∨ i = 11 ∨ i = 12 ∨ i = 13 ∨ i = 14 ∨ i = 15 ∨ i = 16 ∨ i = 17 ∨ i = 18 ∨ i = 19 ∨ i = 20 ∨ i = 21 ∨ i = 22 ∨ i = 23 ∨ i = 24 ∨ i = 25 ∨ i = 26 ∨ i = 27 ∨ i = 28 by omega) with rfl | rfl | rfl | rfl | rfl | rfl | rfl | rfl | rfl | rfl | rfl | rfl | rfl | rfl | rfl | rfl | rfl | rfl | rfl | rfl | rfl | rfl | rfl | rfl | rfl | rfl | rfl | rfl | rfl
      · -- 0: buildSlice 22 5 #[(0, const (160:u8)), (1, const (3:u8)), (2
        refine mono_at (by rfl) rfl ?_
        exact mo_bytes [160, 3, 2, 1, 2] 5 rfl (vs := [(0, .int .u8 160), (1, .int .u8 3), (2, .int .u8 2), (3, .int .u8 1), (4, .int .u8 2)]) (by simp only [List.map_toArray, List.map_cons, List.map_nil, E.cst]) fill_tbs_102 rfl (by omega) (by omega) E.up.size
      · -- 1: convert 22 22 t102
        refine mono_at (by rfl) rfl ?_
        obtain ⟨g102, q102, e102, z102, o102⟩ : (MR.lit (w40.heap.size) ([160, 3, 2, 1, 2])).p (ρ (.tmp 102)) W := E.dep 0 (by kernel_rfl)
        exact mo_freeze rfl (E.dep 0 (by kernel_rfl)) E.up (by decide)
      · -- 2: fieldAddr 33 t1 4
        refine mono_at (by rfl) rfl ?_
        have e1 : ρ (.tmp 1) = .pointer (some ⟨w.heap.size, 0, none⟩) := E.old 1 rfl
        exact mo_field (j' := 4) rfl e1 (fun w => by kernel_rfl) ⟨Below.refl _ _, rfl⟩
      · -- 3: load 22 t104
        refine mono_at (by rfl) rfl ?_
        have e104 : ρ (.tmp 104) = .pointer (some ⟨w.heap.size, 4, none⟩) := E.dep 2 (by kernel_rfl)
        exact mo_load1 rfl e104 (((Lib.cell_of_heap (has_below HK.out E.up) 4).trans C4.out)) (fun w => by kernel_rfl) ⟨Below.refl _ _, rfl⟩
      · -- 4: call { value (Operand.func 26), args := #[const (2:u8), t105
        refine mono_at (by rfl) rfl ?_
        have e105 : ρ (.tmp 105) = sv ser := E.dep 3 (by kernel_rfl)
        refine mo_call rfl (E.fn _) (fun _ _ => by kernel_rfl) (args := #[.int .u8 2, sv ser]) (by simp only [List.map_toArray, List.map_cons, List.map_nil, List.length_cons, List.length_nil, Nat.reduceAdd, E.cst, e105]) ?_
        exact to_rb (base := w.heap.size) (writeM 2 (HR.out.below E.up) (by omega) hbW)
      · -- 5: buildSlice 22 15 #[(0, const (48:u8)), (1, const (13:u8)), (
        refine mono_at (by rfl) rfl ?_
        exact mo_bytes [48, 13, 6, 9, 42, 134, 72, 134, 247, 13, 1, 1, 11, 5, 0] 15 rfl (vs := [(0, .int .u8 48), (1, .int .u8 13), (2, .int .u8 6), (3, .int .u8 9), (4, .int .u8 42), (5, .int .u8 134), (6, .int .u8 72), (7, .int .u8 134), (8, .int .u8 247), (9, .int .u8 13), (10, .int .u8 1), (11, .int .u8 1), (12, .int .u8 11), (13, .int .u8 5), (14, .int .u8 0)]) (by simp only [List.map_toArray, List.map_cons, List.map_nil, E.cst]) fill_tbs_107 rfl (by omega) (by omega) E.up.size
      · -- 6: convert 22 22 t107
        refine mono_at (by rfl) rfl ?_
        obtain ⟨g107, q107, e107, z107, o107⟩ : (MR.lit (w40.heap.size) ([48, 13, 6, 9, 42, 134, 72, 134, 247, 13, 1, 1, 11, 5, 0])).p (ρ (.tmp 107)) W := E.dep 5 (by kernel_rfl)
        exact mo_freeze rfl (E.dep 5 (by kernel_rfl)) E.up (by decide)
      · -- 7: fieldAddr 33 t1 2
        refine mono_at (by rfl) rfl ?_
        have e1 : ρ (.tmp 1) = .pointer (some ⟨w.heap.size, 0, none⟩) := E.old 1 rfl
        exact mo_field (j' := 2) rfl e1 (fun w => by kernel_rfl) ⟨Below.refl _ _, rfl⟩
      · -- 8: load 22 t109
        refine mono_at (by rfl) rfl ?_
        have e109 : ρ (.tmp 109) = .pointer (some ⟨w.heap.size, 2, none⟩) := E.dep 7 (by kernel_rfl)
        exact mo_load1 rfl e109 (((Lib.cell_of_heap (has_below HK.out E.up) 2).trans C2.out)) (fun w => by kernel_rfl) ⟨Below.refl _ _, rfl⟩
      · -- 9: fieldAddr 33 t1 5
        refine mono_at (by rfl) rfl ?_
        have e1 : ρ (.tmp 1) = .pointer (some ⟨w.heap.size, 0, none⟩) := E.old 1 rfl
        exact mo_field (j' := 5) rfl e1 (fun w => by kernel_rfl) ⟨Below.refl _ _, rfl⟩
      · -- 10: load 25 t111
        refine mono_at (by rfl) rfl ?_
        have e111 : ρ (.tmp 111) = .pointer (some ⟨w.heap.size, 5, none⟩) := E.dep 9 (by kernel_rfl)
        exact mo_loadm rfl e111 ((ZF.out _ E.up).1) Try.underlying25 rfl (by kernel_rfl) ⟨Below.refl _ _, rfl⟩
      · -- 11: call { value (Operand.func 46), args := #[t112], argTypes :=
        refine mono_at (by rfl) rfl ?_
        have e112 : ρ (.tmp 112) = tmV f := E.dep 10 (by kernel_rfl)
        refine mo_call rfl (E.fn _) (fun _ _ => by kernel_rfl) (args := #[tmV f]) (by simp only [List.map_toArray, List.map_cons, List.map_nil, List.length_cons, List.length_nil, Nat.reduceAdd, E.cst, e112]) ?_
        exact to_rb (base := w.heap.size) (generalM f hf hbW)
      · -- 12: fieldAddr 33 t1 6
        refine mono_at (by rfl) rfl ?_
        have e1 : ρ (.tmp 1) = .pointer (some ⟨w.heap.size, 0, none⟩) := E.old 1 rfl
        exact mo_field (j' := 11) rfl e1 (fun w => by kernel_rfl) ⟨Below.refl _ _, rfl⟩
      · -- 13: load 25 t114
        refine mono_at (by rfl) rfl ?_
        have e114 : ρ (.tmp 114) = .pointer (some ⟨w.heap.size, 11, none⟩) := E.dep 12 (by kernel_rfl)
        exact mo_loadm rfl e114 ((ZF.out _ E.up).2) Try.underlying25 rfl (by kernel_rfl) ⟨Below.refl _ _, rfl⟩
      · -- 14: call { value (Operand.func 46), args := #[t115], argTypes :=
        refine mono_at (by rfl) rfl ?_
        have e115 : ρ (.tmp 115) = tmV t := E.dep 13 (by kernel_rfl)
        refine mo_call rfl (E.fn _) (fun _ _ => by kernel_rfl) (args := #[tmV t]) (by simp only [List.map_toArray, List.map_cons, List.map_nil, List.length_cons, List.length_nil, Nat.reduceAdd, E.cst, e115]) ?_
        exact to_rb (base := w.heap.size) (generalM t ht hbW)
      · -- 15: buildSlice 56 2 #[(0, t113), (1, t116)]
        refine mono_at (by rfl) rfl ?_
        obtain ⟨A113, n113, c113, e113, o113, q113⟩ : (MR.rb (wrQ 24 (textB f))).p (ρ (.tmp 113)) W := E.dep 11 (by kernel_rfl)
        obtain ⟨A116, n116, c116, e116, o116, q116⟩ : (MR.rb (wrQ 24 (textB t))).p (ρ (.tmp 116)) W := E.dep 14 (by kernel_rfl)
        exact mo_rows [(A113, n113, c113, wrQ 24 (textB f)), (A116, n116, c116, wrQ 24 (textB t))] 2 rfl (vs := [(0, .slice A113 n113 c113), (1, .slice A116 n116 c116)]) (by simp only [List.map_toArray, List.map_cons, List.map_nil, E.cst, e113, e116]) (by kernel_rfl) rfl (by omega) (by omega) (all1R o113 (all1R o116 all0R))
      · -- 16: call { value (Operand.func 28), args := #[t117], argTypes :=
        refine mono_at (by rfl) rfl ?_
        obtain ⟨A117, l117, e117, r117, m117⟩ : (MR.rows [wrQ 24 (textB f), wrQ 24 (textB t)]).p (ρ (.tmp 117)) W := E.dep 15 (by kernel_rfl)
        refine mo_call rfl (E.fn _) (fun _ _ => by kernel_rfl) (args := #[.slice A117 2 2]) (by simp only [List.map_toArray, List.map_cons, List.map_nil, List.length_cons, List.length_nil, Nat.reduceAdd, E.cst, e117]) ?_
        exact to_rb (base := w.heap.size) (seqM r117 m117 rfl (by omega) HSP.out hbW)
      · -- 17: fieldAddr 33 t1 3
        refine mono_at (by rfl) rfl ?_
        have e1 : ρ (.tmp 1) = .pointer (some ⟨w.heap.size, 0, none⟩) := E.old 1 rfl
        exact mo_field (j' := 3) rfl e1 (fun w => by kernel_rfl) ⟨Below.refl _ _, rfl⟩
      · -- 18: load 22 t119
        refine mono_at (by rfl) rfl ?_
        have e119 : ρ (.tmp 119) = .pointer (some ⟨w.heap.size, 3, none⟩) := E.dep 17 (by kernel_rfl)
        exact mo_load1 rfl e119 (((Lib.cell_of_heap (has_below HK.out E.up) 3).trans C3.out)) (fun w => by kernel_rfl) ⟨Below.refl _ _, rfl⟩
      · -- 19: buildSlice 22 15 #[(0, const (48:u8)), (1, const (13:u8)), (
        refine mono_at (by rfl) rfl ?_
        exact mo_bytes [48, 13, 6, 9, 42, 134, 72, 134, 247, 13, 1, 1, 1, 5, 0] 15 rfl (vs := [(0, .int .u8 48), (1, .int .u8 13), (2, .int .u8 6), (3, .int .u8 9), (4, .int .u8 42), (5, .int .u8 134), (6, .int .u8 72), (7, .int .u8 134), (8, .int .u8 247), (9, .int .u8 13), (10, .int .u8 1), (11, .int .u8 1), (12, .int .u8 1), (13, .int .u8 5), (14, .int .u8 0)]) (by simp only [List.map_toArray, List.map_cons, List.map_nil, E.cst]) fill_tbs_121 rfl (by omega) (by omega) E.up.size
      · -- 20: convert 22 22 t121
        refine mono_at (by rfl) rfl ?_
        obtain ⟨g121, q121, e121, z121, o121⟩ : (MR.lit (w40.heap.size) ([48, 13, 6, 9, 42, 134, 72, 134, 247, 13, 1, 1, 1, 5, 0])).p (ρ (.tmp 121)) W := E.dep 19 (by kernel_rfl)
        exact mo_freeze rfl (E.dep 19 (by kernel_rfl)) E.up (by decide)
      · -- 21: move t6
        refine mono_at (by rfl) rfl ?_
        have e6 : ρ (.tmp 6) = .slice A6 (1 + m5) c6 := E.old 6 rfl
        exact mo_move rfl ⟨Below.refl _ _, e6⟩
      · -- 22: call { value (Operand.func 26), args := #[const (3:u8), t123
        refine mono_at (by rfl) rfl ?_
        have e123 : ρ (.tmp 123) = .slice A6 (1 + m5) c6 := E.dep 21 (by kernel_rfl)
        refine mo_call rfl (E.fn _) (fun _ _ => by kernel_rfl) (args := #[.int .u8 3, .slice A6 (1 + m5) c6]) (by simp only [List.map_toArray, List.map_cons, List.map_nil, List.length_cons, List.length_nil, Nat.reduceAdd, E.cst, e123]) ?_
        exact to_rb (base := w.heap.size) (writeM 3 (HO6.out.rb.below E.up) (by simp only [List.length_cons]; omega) hbW)
      · -- 23: buildSlice 56 2 #[(0, t122), (1, t124)]
        refine mono_at (by rfl) rfl ?_
        obtain ⟨A122, n122, c122, e122, o122, q122⟩ : (MR.rb ([48, 13, 6, 9, 42, 134, 72, 134, 247, 13, 1, 1, 1, 5, 0])).p (ρ (.tmp 122)) W := E.dep 20 (by kernel_rfl)
        obtain ⟨A124, n124, c124, e124, o124, q124⟩ : (MR.rb (wrQ 3 (0 :: wrQ 48 (keyB nb e)))).p (ρ (.tmp 124)) W := E.dep 22 (by kernel_rfl)
        exact mo_rows [(A122, n122, c122, [48, 13, 6, 9, 42, 134, 72, 134, 247, 13, 1, 1, 1, 5, 0]), (A124, n124, c124, wrQ 3 (0 :: wrQ 48 (keyB nb e)))] 2 rfl (vs := [(0, .slice A122 n122 c122), (1, .slice A124 n124 c124)]) (by simp only [List.map_toArray, List.map_cons, List.map_nil, E.cst, e122, e124]) (by kernel_rfl) rfl (by omega) (by omega) (all1R o122 (all1R o124 all0R))
      · -- 24: call { value (Operand.func 28), args := #[t125], argTypes :=
        refine mono_at (by rfl) rfl ?_
        obtain ⟨A125, l125, e125, r125, m125⟩ : (MR.rows [[48, 13, 6, 9, 42, 134, 72, 134, 247, 13, 1, 1, 1, 5, 0], wrQ 3 (0 :: wrQ 48 (keyB nb e))]).p (ρ (.tmp 125)) W := E.dep 23 (by kernel_rfl)
        refine mo_call rfl (E.fn _) (fun _ _ => by kernel_rfl) (args := #[.slice A125 2 2]) (by simp only [List.map_toArray, List.map_cons, List.map_nil, List.length_cons, List.length_nil, Nat.reduceAdd, E.cst, e125]) ?_
        exact to_rb (base := w.heap.size) (seqM r125 m125 rfl (by omega) HSK.out hbW)
      · -- 25: move t3
        refine mono_at (by rfl) rfl ?_
        have e3 : ρ (.tmp 3) = .slice A3 n3 c3 := E.old 3 rfl
        exact mo_move rfl ⟨Below.refl _ _, e3⟩
      · -- 26: buildSlice 56 8 #[(0, t103), (1, t106), (2, t108), (3, t110)
        refine mono_at (by rfl) rfl ?_
        obtain ⟨A103, n103, c103, e103, o103, q103⟩ : (MR.rb ([160, 3, 2, 1, 2])).p (ρ (.tmp 103)) W := E.dep 1 (by kernel_rfl)
        obtain ⟨A106, n106, c106, e106, o106, q106⟩ : (MR.rb (wrQ 2 rb)).p (ρ (.tmp 106)) W := E.dep 4 (by kernel_rfl)
        obtain ⟨A108, n108, c108, e108, o108, q108⟩ : (MR.rb ([48, 13, 6, 9, 42, 134, 72, 134, 247, 13, 1, 1, 11, 5, 0])).p (ρ (.tmp 108)) W := E.dep 6 (by kernel_rfl)
        have e110 : ρ (.tmp 110) = sv iss := E.dep 8 (by kernel_rfl)
        obtain ⟨A118, n118, c118, e118, o118, q118⟩ : (MR.rb (wrQ 48 [wrQ 24 (textB f), wrQ 24 (textB t)].flatten)).p (ρ (.tmp 118)) W := E.dep 16 (by kernel_rfl)
        have e120 : ρ (.tmp 120) = sv sub := E.dep 18 (by kernel_rfl)
        obtain ⟨A126, n126, c126, e126, o126, q126⟩ : (MR.rb (wrQ 48 [[48, 13, 6, 9, 42, 134, 72, 134, 247, 13, 1, 1, 1, 5, 0], wrQ 3 (0 :: wrQ 48 (keyB nb e))].flatten)).p (ρ (.tmp 126)) W := E.dep 24 (by kernel_rfl)
        have e127 : ρ (.tmp 127) = .slice A3 n3 c3 := E.dep 25 (by kernel_rfl)
        exact mo_rows [(A103, n103, c103, [160, 3, 2, 1, 2]), (A106, n106, c106, wrQ 2 rb), (A108, n108, c108, [48, 13, 6, 9, 42, 134, 72, 134, 247, 13, 1, 1, 11, 5, 0]), (iss.1, iss.2.1, iss.2.2, ib), (A118, n118, c118, wrQ 48 [wrQ 24 (textB f), wrQ 24 (textB t)].flatten), (sub.1, sub.2.1, sub.2.2, sb), (A126, n126, c126, wrQ 48 [[48, 13, 6, 9, 42, 134, 72, 134, 247, 13, 1, 1, 1, 5, 0], wrQ 3 (0 :: wrQ 48 (keyB nb e))].flatten), (A3, n3, c3, exW (exL ca path us code))] 8 rfl (vs := [(0, .slice A103 n103 c103), (1, .slice A106 n106 c106), (2, .slice A108 n108 c108), (3, sv iss), (4, .slice A118 n118 c118), (5, sv sub), (6, .slice A126 n126 c126), (7, .slice A3 n3 c3)]) (by simp only [List.map_toArray, List.map_cons, List.map_nil, E.cst, e103, e106, e108, e110, e118, e120, e126, e127]) (by kernel_rfl) rfl (by omega) (by omega) (all1R o103 (all1R o106 (all1R o108 (all1R (HI.out.below E.up) (all1R o118 (all1R (HS.out.below E.up) (all1R o126 (all1R (HO3.out.below E.up) all0R))))))))
      · -- 27: call { value (Operand.func 28), args := #[t128], argTypes :=
        refine mono_at (by rfl) rfl ?_
        obtain ⟨A128, l128, e128, r128, m128⟩ : (MR.rows [[160, 3, 2, 1, 2], wrQ 2 rb, [48, 13, 6, 9, 42, 134, 72, 134, 247, 13, 1, 1, 11, 5, 0], ib, wrQ 48 [wrQ 24 (textB f), wrQ 24 (textB t)].flatten, sb, wrQ 48 [[48, 13, 6, 9, 42, 134, 72, 134, 247, 13, 1, 1, 1, 5, 0], wrQ 3 (0 :: wrQ 48 (keyB nb e))].flatten, exW (exL ca path us code)]).p (ρ (.tmp 128)) W := E.dep 26 (by kernel_rfl)
        refine mo_call rfl (E.fn _) (fun _ _ => by kernel_rfl) (args := #[.slice A128 8 8]) (by simp only [List.map_toArray, List.map_cons, List.map_nil, List.length_cons, List.length_nil, Nat.reduceAdd, E.cst, e128]) ?_
        exact seqM r128 m128 rfl (by omega) HALL.out hbW
      · -- 28: assign t129
        refine mono_at (by rfl) rfl ?_
        obtain ⟨A129, n129, c129, e129, o129⟩ : (MR.own (w.heap.size) (wrQ 48 [[160, 3, 2, 1, 2], wrQ 2 rb, [48, 13, 6, 9, 42, 134, 72, 134, 247, 13, 1, 1, 11, 5, 0], ib, wrQ 48 [wrQ 24 (textB f), wrQ 24 (textB t)].flatten, sb, wrQ 48 [[48, 13, 6, 9, 42, 134, 72, 134, 247, 13, 1, 1, 1, 5, 0], wrQ 3 (0 :: wrQ 48 (keyB nb e))].flatten, exW (exL ca path us code)].flatten)).p (ρ (.tmp 129)) W := E.dep 27 (by kernel_rfl)
        exact mo_assign rfl ⟨Below.refl _ _, _, _, _, e129, o129⟩
    · intro u W hbU hR
      obtain ⟨B2, m2, k2, hu2, ho2⟩ : (MR.own (w.heap.size) (wrQ 48 [[160, 3, 2, 1, 2], wrQ 2 rb, [48, 13, 6, 9, 42, 134, 72, 134, 247, 13, 1, 1, 11, 5, 0], ib, wrQ 48 [wrQ 24 (textB f), wrQ 24 (textB t)].flatten, sb, wrQ 48 [[48, 13, 6, 9, 42, 134, 72, 134, 247, 13, 1, 1, 1, 5, 0], wrQ 3 (0 :: wrQ 48 (keyB nb e))].flatten, exW (exL ca path us code)].flatten)).p (u 28) W := hR 28 (by decide)
      clear hR
      simp only [lay, Nat.reduceAdd, List.setIfInBounds_toArray, List.set_cons_zero, List.set_cons_succ, hu2]
      clear hu2
      have HO2 := Lib.hid ho2
      have HBU := Lib.hid (kp_call HB.out hbU)
      clear ho2 hbU
      go_wp2
      go_ret
      refine ⟨B2, m2, k2, rfl, ?_, HBU.out⟩
      have h9 := HO2.out
      rw [HWF.out, HWK.out] at h9
      unfold tbsB
      rw [show wrQ 160 [2, 1, 2] = [160, 3, 2, 1, 2] by decide +kernel]
      simp only [List.flatten_cons, List.flatten_nil, List.append_nil] at h9
      exact h9
end Go.Proofs.Ytomolfdcdmncoaa
