/-
  descr: Read of forty bytes and more.
-/
import Derived.Test.YthmmipcfabijdaaDoorDeD
namespace Go.Proofs.YthmmipcfabijdaaDoor
open Go.RowKit Go
set_option linter.unusedVariables false
set_option maxRecDepth 100000
theorem str_ne {l m : List UInt8} (h : l ≠ m) : ((strOf l).toList == (strOf m).toList) = false := by
  rw [strOf_toList, strOf_toList]
  exact beq_eq_false_iff_ne.2 h
set_option maxHeartbeats 6400000 in
theorem dread_f (A : Option Addr) (n c : Nat) (bs : List UInt8) (w : World) (hR : RB w A n bs) (hc : n ≤ c) (hc2 : c ≤ 9223372036854775807) (hn : n ≤ 1000000) (hT : Sizes w) (h16 : 16 ≤ n) (u : Tm) (hro : readO (cut bs 0 16) = some u) (hnz : u ≠ Tm.zero) (h40 : 40 ≤ n) (hm : cut bs 20 20 ≠ marksL) :
    Calls Tryd.prog 9 #[.slice A n c] w (DReadPost w bs) := by
  have hq0 : dR bs = if cut bs 20 20 = marksL ∧ 25 ≤ leN (cut bs 16 4) ∧ leN (cut bs 16 4) ≤ 65560 ∧ 16 + leN (cut bs 16 4) ≤ n then some (u, cut bs 40 (leN (cut bs 16 4) - 24), bs.drop (16 + leN (cut bs 16 4))) else none := by
    unfold dR
    rw [if_neg (by rw [hR.1]; omega), hro]
    simp only
    rw [if_neg hnz, hR.1]
  have hq : dR bs = none := by rw [hq0, if_neg (fun h => hm h.1)]
  have hlv : leN (cut bs 16 4) < 4294967296 := by
    have := leN_lt (cut bs 16 4)
    rw [cut_len _ _ _ (by rw [hR.1]; omega)] at this
    exact this
  clear hq0
  have ST := Lib.hid (dd_start A n c bs w hR hc hc2)
  have TO : Hid (∀ W cs k (m : Nat), Dd w W cs A n c bs k → k + m ≤ n → Calls Tryd.prog 32 #[.int .i64 (m : Int), .pointer (some ⟨w.heap.size + 1, 0, none⟩), .pointer (some ⟨w.heap.size + 2, 0, none⟩)] W (TakeOk W (w.heap.size + 1) (w.heap.size + 2) A n c bs k m)) := fun W cs k m h hm => take_ok _ _ A n c bs k m W h.t hm (by omega)
  have TN : Hid (∀ W cs k (m : Nat), Dd w W cs A n c bs k → n < k + m → m ≤ 65560 → Calls Tryd.prog 32 #[.int .i64 (m : Int), .pointer (some ⟨w.heap.size + 1, 0, none⟩), .pointer (some ⟨w.heap.size + 2, 0, none⟩)] W fun e w' => e = .returned (.tuple #[.slice none 0 0, .bool false]) ∧ W = w') := fun W cs k m h hm hm2 => take_no _ _ A n c bs k m W h.t hm (by omega) (by omega)
  have HLEN := Lib.hid hR.1
  have HRR := Lib.hid hR
  have GN : Hid (∀ W, Sizes W → Calls Tryd.prog 19 #[.slice none 0 0, .int .i64 0, .int .i64 4] W fun e w' => e = .returned (.tuple #[.int .u64 0, .int .i64 1]) ∧ W = w') := fun W hs => get_not none 0 0 0 4 W hs (by omega) (by omega) (by omega) (.inr (by simp [inB]))
  have SR := Lib.hid (fun A2 c2 W hr h1 h2 hs => sread_any A2 16 c2 (cut bs 0 16) W hr h1 h2 hs)
  rw [hro] at SR
  simp only [readV, Option.getD_some, Option.isSome_some, tmV, Tm.cells] at SR
  obtain ⟨y, mo, dd, hh, mi, ss⟩ := u
  simp only at SR
  have HEQ : ∀ W, (Op.equalIn 10000 25 (.agg #[.int .u16 (y : Int), .int .u8 (mo.toNat : Int), .int .u8 (dd.toNat : Int), .int .u8 (hh.toNat : Int), .int .u8 (mi.toNat : Int), .int .u8 (ss.toNat : Int)]) (.agg #[.int .u16 0, .int .u8 0, .int .u8 0, .int .u8 0, .int .u8 0, .int .u8 0])).run Tryd.prog W = .ok false W := fun W => (tm_same ⟨y, mo, dd, hh, mi, ss⟩ Tm.zero W 9998).trans (by rw [decide_eq_false hnz])
  have e4 : cut (cut bs 16 4) 0 4 = cut bs 16 4 := by unfold cut; simp [List.take_take]
  have HE4 := Lib.hid e4
  clear e4
  have HMK : Hid (¬ (strOf (cut bs 20 20)).toList = [0, 2, 241, 14, 157, 210, 175, 74, 223, 104, 238, 73, 138, 169, 52, 125, 55, 86, 101, 167]) := by show ¬ _; rw [strOf_toList]; exact hm
  generalize hlvv : leN (cut bs 16 4) = lv at *
  have HLV := Lib.hid hlvv
  clear hlvv
  clear hR hro hnz hm
  go_enter Tryd.func9, Tryd.ntmps9
  go_wp2_with fail
  refine (ST.out _ rfl).mono ?_
  intro e w1 hw1
  obtain ⟨rfl, rd1⟩ := hw1
  clear ST
  have T4 := Lib.hid (TO.out w1 _ 0 16 rd1 (by omega))
  have HD1 := Lib.hid rd1
  clear rd1
  go_wp2_with fail
  refine T4.out.mono ?_
  rintro e w2 ⟨A2, c2, rfl, hown2, ht2, hg2⟩
  have HD2 := Lib.hid (HD1.out.step hg2 ht2)
  have hcp2 := hown2.cap
  unfold maxLen at hcp2
  have SR2 := Lib.hid (SR.out A2 c2 w2 hown2.rb (by omega) (by omega) (hT.below' HD2.out.b))
  clear hown2 ht2 hg2 T4 HD1 SR
  go_wp2_with fail
  refine SR2.out.mono ?_
  intro e w3 hw3
  obtain ⟨rfl, hb3⟩ := hw3
  have rd3 := HD2.out.below hb3
  clear hb3 HD2 SR2
  obtain ⟨a0, a1, a2, a3, a4, a5⟩ := cells6 rd3.z
  obtain ⟨f0, f1, f2, f3, f4, f5⟩ := free6 rd3.z
  have HD4 := Lib.hid (rd3.put HRR.out (.int .u16 (y : Int)) (.int .u8 (mo.toNat : Int)) (.int .u8 (dd.toNat : Int)) (.int .u8 (hh.toNat : Int)) (.int .u8 (mi.toNat : Int)) (.int .u8 (ss.toNat : Int)))
  clear rd3
  go_wp2_with fail
  refine calls_named fun w4 hw4 => ?_
  have rd4 : Dd w w4 #[.int .u16 (y : Int), .int .u8 (mo.toNat : Int), .int .u8 (dd.toNat : Int), .int .u8 (hh.toNat : Int), .int .u8 (mi.toNat : Int), .int .u8 (ss.toNat : Int)] A n c bs 16 := hw4 ▸ HD4.out
  clear hw4 HD4 a0 a1 a2 a3 a4 a5 f0 f1 f2 f3 f4 f5
  have T5 := Lib.hid (TO.out w4 _ 16 4 rd4 (by omega))
  have HD4 := Lib.hid rd4
  clear rd4
  refine T5.out.mono ?_
  rintro e w5 ⟨A5, c5, rfl, hown5, ht5, hg5⟩
  have HD5 := Lib.hid (HD4.out.step hg5 ht5)
  have G5 := get_ok A5 4 c5 _ 0 4 w5 hown5.rb (hT.below' HD5.out.b) (by omega) rfl (by omega)
  rw [HE4.out, HLV.out] at G5
  have G5 := Lib.hid G5
  clear hown5 ht5 hg5 T5 HD4
  go_wp2_with fail
  refine G5.out.mono ?_
  rintro e w' ⟨rfl, rfl⟩
  clear G5
  have T6 := Lib.hid (TO.out w5 _ 20 20 HD5.out (by omega))
  go_wp2_with fail
  refine T6.out.mono ?_
  rintro e w6 ⟨A6, c6, rfl, hown6, ht6, hg6⟩
  have HD6 := Lib.hid (HD5.out.step hg6 ht6)
  have SC : ∀ W, Below w6.heap.size w6 W → (convert 22 9 (.slice A6 20 c6)).run Tryd.prog W = .ok (.string (strOf (cut bs 20 20))) W := fun W hb => by
    have h9 := run_strOf W w6.heap.size A6 (cut bs 20 20) c6 (hown6.reads.below hb)
    rw [hown6.len] at h9
    exact h9
  have SC6 := SC w6 (Below.refl _ _)
  clear hown6 ht6 hg6 T6 HD5 SC
  have hmk := HMK.out
  generalize strOf (cut bs 20 20) = hst at SC6 hmk
  have rd6 := HD6.out
  clear HD6
  obtain ⟨a0, a1, a2, a3, a4, a5⟩ := cells6 rd6.z
  obtain ⟨f0, f1, f2, f3, f4, f5⟩ := free6 rd6.z
  have rdx := rd6.put HRR.out (.int .u16 0) (.int .u8 0) (.int .u8 0) (.int .u8 0) (.int .u8 0) (.int .u8 0)
  have HF := Lib.hid (dread_none (w := w) hq rdx.b)
  have HZ := Lib.hid rdx.z
  clear hq rdx rd6
  go_wp2
  refine bodyPost_ret (results_de rfl _ _ _ _ _ _ _ _ _ rfl HZ.out) rfl ?_
  exact HF.out
end Go.Proofs.YthmmipcfabijdaaDoor
