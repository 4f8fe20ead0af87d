import Derived.Test.YtlpbkoiopaejgaaDoorCrcC
import Derived.Test.YtlpbkoiopaejgaaDoorRows2
namespace Go.Proofs.YtlpbkoiopaejgaaDoor
open Go.RowKit Go
set_option linter.unusedVariables false
def cat (bss : Nat → List UInt8) : Nat → List UInt8
  | 0 => []
  | k + 1 => cat bss k ++ bss k
theorem parts_row (a0 : Int) (A1 : Option Addr) (n1 c1 : Nat) (X : Nat → Option Addr × Nat × Nat) (bss : Nat → List UInt8) (w : World) (w0 : (Lit.int .u32 a0).wf = true) (h1 : IsRows w A1 n1 c1 X bss) (hT : Tab w) :
    Calls Tryd.prog 4 #[.int .u32 a0, .slice A1 n1 c1] w fun e w' => e = .returned (.bool true) ∧ Below w.heap.size w w' := by
  rw [← word_of_wf w0]
  generalize BitVec.ofInt 32 a0 = s
  clear w0
  have hlim := h1.lim
  have hz := hT.1
  have WK := Lib.hid (fun W (h : Tab W) => works_any W h)
  by_cases hlen : n1 ≤ 100
  · go_enter Tryd.func4, Tryd.ntmps4
    go_wp2
    go_loopw [5, 6, 7] (fun v x i wr => ∃ (k m : Nat) (A2 : Option Addr) (c2 : Nat), k ≤ n1 ∧ m ≤ k * 1024 ∧ i = .int .i64 k ∧ v = .slice A2 m c2 ∧ x = wv (ext s (cat bss k)) ∧ OwnB wr w.heap.size A2 m c2 (cat bss k) ∧ Below w.heap.size w wr) (fun _ _ i _ => n1 - (intOf i).toNat)
    case atStart => exact ⟨0, 0, none, 0, Nat.zero_le _, Nat.zero_le _, rfl, rfl, by rw [show cat bss 0 = [] from rfl, ext_nil], OwnB.nil _ _, Below.refl _ _⟩
    case round =>
      obtain ⟨k, m, A2, c2, hk, hm, rfl, rfl, rfl, hown, hbl⟩ := hrel
      have hTr := hT.below hbl hz
      by_cases hlt : k < n1
      · obtain ⟨b, off, rfl, hblt, hrow⟩ := h1.rows (by omega)
        obtain ⟨hc, hB⟩ := hrow k hlt
        have hc' := (hbl.cell (p := ⟨b, off + k, none⟩) hblt).trans hc
        have hR := hB.rb
        have hL := hB.lim
        obtain ⟨⟨Ak, nk, ck⟩, hX⟩ : ∃ y, y = X k := ⟨_, rfl⟩
        rw [← hX] at hc' hR hL
        simp only at hc' hR hL
        have hbk := hB.len
        rw [← hX] at hbk
        simp only at hbk
        have HB := Lib.hid hbk
        have HC := Lib.hid (hc.trans (by rw [← hX]))
        clear hX hc hB hrow hbk
        by_cases h10 : nk ≤ 1024
        · have hext : Hid (ext s (cat bss (k + 1)) = ext (ext s (cat bss k)) (bss k)) := (ext_append s (cat bss k) (bss k)).symm
          have HR := Lib.hid hR
          obtain ⟨rfl, hbs⟩ := hR
          have hbs' := hbs.below hbl
          have hsz := hbl.size
          have hml := Lib.hid hown.len
          go_wp2_with (at_builtin; refine wpList_app _ _ rfl rfl rfl w.heap.size A2 m c2 (cat bss k) rfl hown w.heap.size Ak ck (bss k) rfl hbs' (by have := hml.out; omega) hsz ?_)
          intro A3 c3 w3 hown3 hg3
          have hb3 : Below w.heap.size w w3 := hbl.grown hg3 hsz (fun g hg => (hown.blk_lt hg).1)
          have hT3 := hT.below hb3 hz
          have hR3 := HR.out.below hb3
          have hc3 := (hb3.cell (p := ⟨b, off + k, none⟩) hblt).trans HC.out
          clear hc' hbs hbs' hTr
          go_wp2_with fail
          refine (extend_any _ Ak _ ck (bss k) w3 hT3 hR3 (by omega)).mono ?_
          rintro e w' ⟨rfl, rfl⟩
          go_wp2
          go_roundw
          case rel => exact ⟨k + 1, m + (bss k).length, A3, c3, by omega, by omega, by go_num, rfl, by rw [hext.out], hown3, hb3⟩
          case measure => simp [intOf]; omega
        · go_wp2_with fail
          refine (WK.out wr hTr).mono ?_
          rintro e w2 ⟨rfl, hb2⟩
          go_wp2
          go_ret
          exact ⟨rfl, hbl.trans (hb2.mono hbl.size)⟩
      · obtain rfl : k = n1 := by omega
        have q1 : (tn (ext s (cat bss k)) == tn (ext s (cat bss k))) = true := by simp
        have q2 : (tn s == tn s) = true := by simp
        have E0 := Lib.hid (extend_any s none 0 0 [] wr hTr (RB.nil _ _) (by omega))
        rw [ext_nil] at E0
        have hml := hown.len
        go_wp2_with fail
        refine (extend_any s A2 m c2 (cat bss k) wr hTr hown.rb (by omega)).mono ?_
        rintro e w' ⟨rfl, rfl⟩
        go_wp2_with fail
        refine E0.out.mono ?_
        rintro e w' ⟨rfl, rfl⟩
        go_wp2_with fail
        refine (WK.out wr hTr).mono ?_
        rintro e w2 ⟨rfl, hb2⟩
        go_wp2
        go_ret
        exact ⟨rfl, hbl.trans (hb2.mono hbl.size)⟩
  · go_enter Tryd.func4, Tryd.ntmps4
    go_wp2_with fail
    refine (WK.out w hT).mono ?_
    rintro e w' ⟨rfl, hb1⟩
    go_wp2
    go_ret
    exact ⟨rfl, hb1⟩
end Go.Proofs.YtlpbkoiopaejgaaDoor
