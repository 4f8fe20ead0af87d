/-
  der: Write.
-/
import Derived.Test.YtamkbedbkjndgaaDrW
import Derived.Laws.BitsAllLaws
namespace Go.Proofs.Ytamkbedbkjndgaa
open Go.RowKit Go
set_option linter.unusedVariables false
set_option maxRecDepth 100000
theorem ofNat_small (n : Nat) (h : n < 256) : ((UInt8.ofNat n).toNat : Int) = (n : Int) := by
  rw [UInt8.toNat_ofNat']; omega
theorem own_lit (w : World) (bs : List UInt8) (n : Nat) (cs : Array Value) (h : cs.toList = bs.map bv) (hn : bs.length = n) (hm : n ≤ 1000000) :
    OwnB (w.alloc (.cells cs 5)) w.heap.size (some ⟨w.heap.size, 0, none⟩) n n bs := by
  have hl : cs.size = n := by rw [← Array.length_toList, h, List.length_map, hn]
  refine ⟨by simp [hn], .inr ⟨w.heap.size, n, cs, rfl, Nat.le_refl _, heap_alloc_new w _, Nat.le_refl _, by unfold maxLen; omega, by omega, ?_⟩⟩
  rw [h, List.take_of_length_le (by simp; omega)]
theorem write_short (tag : UInt8) (A : Option Addr) (n c : Nat) (bs : List UInt8) (w : World) (hR : RB w A n bs) (hn : n < 128) :
    Calls Try.prog 23 #[.int .u8 (tag.toNat : Int), .slice A n c] w (Fresh w (wrQ tag bs)) := by
  have hl := hR.1
  have J := Lib.hid (joins_any [(some ⟨w.heap.size, 0, none⟩, 2, 2, [tag, UInt8.ofNat n]), (A, n, c, bs)] 2 #[.slice (some ⟨w.heap.size, 0, none⟩) 2 2, .slice A n c] (w.alloc (.cells #[.int .u8 (tag.toNat : Int), .int .u8 (n : Int)] 5)) (w.heap.size + 1) (by simp) rfl (by omega) rfl
    (by intro x hx; simp at hx; rcases hx with rfl | rfl; exact ⟨rfl, (bs_new w [tag, UInt8.ofNat n] _ _ _ (by simp; omega)).more (by simp)⟩; exact hR.alloc _) (by simp; omega))
  have hw : wrQ tag bs = [tag, UInt8.ofNat n] ++ bs := by unfold wrQ; rw [hl, if_pos hn]; rfl
  have hw := Lib.hid hw
  clear hR hl
  go_enter Try.func23, Try.ntmps23
  go_wp2_with fail
  (with_reducible refine J.out.mono ?_)
  rintro e w2 ⟨A2, n2, c2, rfl, hown, hb⟩
  go_wp2
  go_ret
  refine ⟨A2, n2, c2, rfl, ?_, ((Below.refl _ _).alloc (Nat.le_refl _) _).trans (hb.mono (by simp))⟩
  have := hown.lower (base' := w.heap.size) (by simp)
  rw [hw.out]
  simpa using this
theorem write_long (tag : UInt8) (A : Option Addr) (n c : Nat) (bs : List UInt8) (w : World) (hR : RB w A n bs) (hn : 128 ≤ n) (hn2 : n ≤ 1000000000) :
    Calls Try.prog 23 #[.int .u8 (tag.toNat : Int), .slice A n c] w (Fresh w (wrQ tag bs)) := by
  have hl := hR.1
  have hL4 := lenB_len 4 n (by omega)
  have HL := Lib.hid hL4
  clear hL4
  have hd : decide ((n : Int) < 128) = false := by simp; omega
  go_enter Try.func23, Try.ntmps23
  go_wp2
  go_loopw [6, 7] (fun v i wl => ∃ (x : Nat) (L : List UInt8) (A2 : Option Addr) (n2 c2 : Nat), x ≤ n ∧ i = .int .i64 x ∧ v = .slice A2 n2 c2 ∧ OwnB wl w.heap.size A2 n2 c2 L ∧ Below w.heap.size w wl ∧ Hid (lenB n = lenB x ++ L)) (fun _ i _ => (intOf i).toNat)
  case atStart => exact ⟨n, [], _, _, _, Nat.le_refl _, rfl, rfl, OwnB.nil _ _, Below.refl _ _, by unfold Hid; simp⟩
  case round =>
    obtain ⟨x, L, A2, n2, c2, hx, rfl, rfl, hown, hbl, HX⟩ := hrel
    by_cases hlt : 0 < x
    · have hsz := hbl.size
      obtain ⟨q, hq⟩ : ∃ q : UInt8, (x : Int) % 256 = (q.toNat : Int) := ⟨UInt8.ofNat (x % 256), by rw [byte_mod]; omega⟩
      have hLn := HL.out
      rw [HX.out, List.length_append] at hLn
      have hl2 := hown.len
      go_wp2_with (at_builtin; refine wpList_apn _ _ rfl rfl rfl w.heap.size (some ⟨wr.heap.size, 0, none⟩) 1 1 [q] rfl ((own_lit wr [q] 1 _ rfl rfl (by omega)).lower hsz) A2 n2 c2 L rfl (hown.rb.alloc _) (by omega) (by simp; omega) ?_)
      intro A3 c3 w3 hown3 hg3
      have HN : Hid (lenB n = lenB (x / 256) ++ (q :: L)) := by
        have e := HX.out
        rw [lenB_pos (n := x) (by omega)] at e
        have e2 : UInt8.ofNat (x % 256) = q := by
          apply UInt8.toNat_inj.1
          rw [byte_mod]; omega
        rw [e2, List.append_assoc] at e
        exact e
      have hbl3 : Below w.heap.size w w3 := (hbl.alloc hsz _).grown hg3 (by simp; omega) (fun g hg => by injection hg with hg; subst hg; exact hsz)
      go_wp2
      go_roundw
      case rel => exact ⟨x / 256, q :: L, A3, _, c3, by omega, by go_num, rfl, hown3, hbl3, HN⟩
      case measure => simp [intOf]; omega
    · obtain rfl : x = 0 := by omega
      have HX : Hid (lenB n = L) := by
        have := HX.out
        rw [lenB_zero] at this
        exact this
      have hLn := HL.out
      rw [HX.out] at hLn
      have hl2 := hown.len
      have hL1 := lenB_one (n := n) (by omega)
      rw [HX.out] at hL1
      have hsz := hbl.size
      have hn4 : n2 ≤ 4 := by omega
      obtain ⟨y, hy⟩ : ∃ y : UInt8, y = UInt8.ofNat (128 + n2) := ⟨_, rfl⟩
      have hof : (y.toNat : Int) = 128 + (n2 : Int) := by rw [hy, UInt8.toNat_ofNat']; omega
      have hcs : (#[Value.int .u8 (tag.toNat : Int), .int .u8 (128 + (n2 : Int))] : Array Value).toList = [tag, y].map bv := by simp only [List.map_cons, List.map_nil, bv, hof]
      have J := Lib.hid (joins_any [(some ⟨wr.heap.size, 0, none⟩, 2, 2, [tag, y]), (A2, n2, c2, L), (A, n, c, bs)] 3 #[.slice (some ⟨wr.heap.size, 0, none⟩) 2 2, .slice A2 n2 c2, .slice A n c] (wr.alloc (.cells #[.int .u8 (tag.toNat : Int), .int .u8 (128 + (n2 : Int))] 5)) (wr.heap.size + 1) (by simp) rfl (by omega) rfl
        (by intro x hx; simp at hx; rcases hx with rfl | rfl | rfl; exact ⟨rfl, (bs_new wr [tag, y] 5 (0, 0) _ hcs).more (by simp)⟩; exact hown.rb.alloc _; exact (hR.below hbl).alloc _) (by simp; omega))
      have hw : wrQ tag bs = [tag, y] ++ L ++ bs := by unfold wrQ; rw [hl, if_neg (by omega), HX.out, hl2, hy]; simp
      have hw := Lib.hid hw
      clear hR hl hl2 hof hcs hy
      go_wp2_with fail
      (with_reducible refine J.out.mono ?_)
      rintro e w2 ⟨A3, n3, c3, rfl, hown3, hb⟩
      go_wp2
      go_ret
      refine ⟨A3, n3, c3, rfl, ?_, (hbl.alloc hsz _).trans (hb.mono (by simp; omega))⟩
      have := hown3.lower (base' := w.heap.size) (by simp; omega)
      rw [hw.out]
      simpa using this
theorem write_any (tag : UInt8) (A : Option Addr) (n c : Nat) (bs : List UInt8) (w : World) (hR : RB w A n bs) (hn : n ≤ 1000000000) :
    Calls Try.prog 23 #[.int .u8 (tag.toNat : Int), .slice A n c] w (Fresh w (wrQ tag bs)) := by
  by_cases h : n < 128
  · exact write_short tag A n c bs w hR h
  · exact write_long tag A n c bs w hR (by omega) hn
end Go.Proofs.Ytamkbedbkjndgaa
