/-
  siglist: items and lists that are read; bytes that a call writes on (made by genSi2.py).
-/
import Derived.Deep.MidRow
import Derived.Test.YtfampefflkkckaaDoorSi1
import Derived.Test.YtfampefflkkckaaDoorUp
import Derived.Deep.RegionHeld3
import Derived.Deep.DrawnRows
import Derived.Test.YtfampefflkkckaaDoorAppS
import Derived.Test.YtfampefflkkckaaDoorOctC1
namespace Go.Proofs.YtfampefflkkckaaDoor
open Go.RowKit Go
set_option linter.unusedVariables false
set_option linter.unusedSimpArgs false
set_option maxRecDepth 100000

/-! ### Flat rows -/
theorem flat_nth {α : Type} (f : α → List Value) (k : Nat) : ∀ (zs : List α), (∀ z ∈ zs, (f z).length = k) → ∀ (i j : Nat) (z : α), zs[i]? = some z → j < k → (zs.flatMap f)[i * k + j]? = (f z)[j]? := by
  intro zs
  induction zs with
  | nil => intro _ i j z h; simp at h
  | cons y zs ih =>
    intro hk i j z h hj
    have hy := hk y (List.mem_cons_self ..)
    rw [List.flatMap_cons]
    cases i with
    | zero =>
      simp at h
      subst h
      rw [Nat.zero_mul, Nat.zero_add, List.getElem?_append_left (by omega)]
    | succ i =>
      rw [Nat.succ_mul, List.getElem?_append_right (by omega), hy, show i * k + k + j - k = i * k + j by omega]
      exact ih (fun x hx => hk x (List.mem_cons_of_mem _ hx)) i j z (by simpa using h) hj
theorem flat_len {α : Type} (f : α → List Value) (k : Nat) : ∀ (zs : List α), (∀ z ∈ zs, (f z).length = k) → (zs.flatMap f).length = zs.length * k := by
  intro zs
  induction zs with
  | nil => intro _; simp
  | cons y zs ih =>
    intro hk
    rw [List.flatMap_cons, List.length_append, hk y (List.mem_cons_self ..), ih (fun x hx => hk x (List.mem_cons_of_mem _ hx)), List.length_cons, Nat.succ_mul]
    omega
/-! ### Items that are read -/
structure ImR (w : World) (z : IM) : Prop where
  r : RB w z.a z.n z.d
  o : z.o.length = 16
  c : z.n ≤ z.c
  m : z.c ≤ 9223372036854775807
structure ItemsZ (w : World) (A : Option Addr) (n : Nat) (zs : List IM) : Prop where
  len : zs.length = n
  row : ReadR w A (zs.flatMap IM.cells)
  each : ∀ z ∈ zs, ImR w z
section
variable {w w' : World} {A : Option Addr} {n c base : Nat} {zs : List IM}
theorem ImR.below {z : IM} (h : ImR w z) (hb : Below w.heap.size w w') : ImR w' z := ⟨h.r.below hb, h.o, h.c, h.m⟩
theorem ItemsZ.below (h : ItemsZ w A n zs) (hb : Below w.heap.size w w') : ItemsZ w' A n zs := ⟨h.len, h.row.below hb (Nat.le_refl _), fun z hz => (h.each z hz).below hb⟩
theorem ItemsZ.nil (w : World) (A : Option Addr) : ItemsZ w A 0 [] := ⟨rfl, ReadR.nil, fun z hz => by cases hz⟩
theorem Ims.read (h : Ims w base zs) : ∀ z ∈ zs, ImR w z := fun z hz => ⟨(h z hz).1.rb, (h z hz).2, (h z hz).1.cap.1, by have := (h z hz).1.cap.2; unfold maxLen at this; omega⟩
theorem Ims.len17 (h : Ims w base zs) : ∀ z ∈ zs, z.cells.length = 17 := fun z hz => z.cells_len (h z hz).2
theorem own_items (h : OwnR w base 49 17 A n c (zs.flatMap IM.cells)) (hi : Ims w base zs) : ItemsZ w A n zs := ⟨by
  have h1 := h.len
  rw [flat_len _ 17 _ hi.len17] at h1
  omega, h.reads, hi.read⟩
/-- One of the items that are read. -/
theorem ItemsZ.at_ (h : ItemsZ w A n zs) {i : Nat} (hi : i < n) : ∃ z b off, zs[i]? = some z ∧ A = some ⟨b, off, none⟩ ∧ b < w.heap.size ∧ w.rangeAt b (off + i * 17) z.cells ∧ ImR w z := by
  have hl := h.len
  have hg : zs[i]? = some zs[i] := List.getElem?_eq_getElem (by omega)
  have hz := h.each zs[i] (List.getElem_mem _)
  have hk : ∀ z ∈ zs, z.cells.length = 17 := fun z hz => z.cells_len (h.each z hz).o
  have hf : ∀ j, j < 17 → (zs.flatMap IM.cells)[i * 17 + j]? = zs[i].cells[j]? := fun j hj => flat_nth IM.cells 17 zs hk i j zs[i] hg hj
  have h0 := (hf 0 (by omega)).trans (List.getElem?_eq_getElem (by rw [hk _ (List.getElem_mem _)]; omega))
  obtain ⟨b, off, e, hb, -⟩ := h.row.at_ h0
  refine ⟨zs[i], b, off, hg, e, hb, fun j v hv => ?_, hz⟩
  have hj : j < 17 := by
    rw [← hk _ (List.getElem_mem (by omega : i < zs.length))]
    exact (List.getElem?_eq_some_iff.1 hv).1
  obtain ⟨b2, off2, e2, -, h2⟩ := h.row.at_ ((hf j hj).trans hv)
  rw [e] at e2
  injection e2 with e2
  injection e2 with e3 e4
  subst e3; subst e4
  rw [Nat.add_assoc]
  exact h2
end
/-! ### Lists that are read -/
structure LmR (w : World) (z : LM) (zs : List IM) : Prop where
  i : ItemsZ w z.a z.n zs
  e : zs.map IM.itm = z.is
  c : z.n ≤ z.c
  m : z.c ≤ 9223372036854775807
structure ListsZ (w : World) (A : Option Addr) (n : Nat) (ls : List LM) : Prop where
  len : ls.length = n
  row : ReadR w A (ls.flatMap LM.cells)
  each : ∀ z ∈ ls, ∃ zs, LmR w z zs
section
variable {w w' : World} {A : Option Addr} {n c base : Nat} {ls : List LM}
theorem LmR.below {z : LM} {zs : List IM} (h : LmR w z zs) (hb : Below w.heap.size w w') : LmR w' z zs := ⟨h.i.below hb, h.e, h.c, h.m⟩
theorem ListsZ.below (h : ListsZ w A n ls) (hb : Below w.heap.size w w') : ListsZ w' A n ls := ⟨h.len, h.row.below hb (Nat.le_refl _), fun z hz => by
  obtain ⟨zs, h1⟩ := h.each z hz
  exact ⟨zs, h1.below hb⟩⟩
theorem ListsZ.nil (w : World) (A : Option Addr) : ListsZ w A 0 [] := ⟨rfl, ReadR.nil, fun z hz => by cases hz⟩
theorem own_list {z : LM} (h : ItemsOwn w base z.a z.n z.c z.is) : ∃ zs, LmR w z zs := by
  obtain ⟨zs, h1, h2, h3⟩ := h
  exact ⟨zs, own_items h2 h3, h1, h2.cap.1, by have := h2.cap.2; unfold maxLen at this; omega⟩
theorem own_lists (h : OwnR w base 41 2 A n c (ls.flatMap LM.cells)) (hi : Lms w base ls) : ListsZ w A n ls := ⟨by
  have h1 := h.len
  rw [flat_len LM.cells 2 ls (fun z _ => rfl)] at h1
  omega, h.reads, fun z hz => own_list (hi z hz)⟩
theorem ListsZ.at_ (h : ListsZ w A n ls) {i : Nat} (hi : i < n) : ∃ z b off, ls[i]? = some z ∧ A = some ⟨b, off, none⟩ ∧ b < w.heap.size ∧ w.rangeAt b (off + i * 2) z.cells ∧ ∃ zs, LmR w z zs := by
  have hl := h.len
  have hg : ls[i]? = some ls[i] := List.getElem?_eq_getElem (by omega)
  have hk : ∀ z ∈ ls, z.cells.length = 2 := fun z hz => rfl
  have hf : ∀ j, j < 2 → (ls.flatMap LM.cells)[i * 2 + j]? = ls[i].cells[j]? := fun j hj => flat_nth LM.cells 2 ls hk i j ls[i] hg hj
  obtain ⟨b, off, e, hb, -⟩ := h.row.at_ (hf 0 (by omega))
  refine ⟨ls[i], b, off, hg, e, hb, fun j v hv => ?_, h.each _ (List.getElem_mem _)⟩
  have hj : j < 2 := by
    have := (List.getElem?_eq_some_iff.1 hv).1
    exact this
  obtain ⟨b2, off2, e2, -, h2⟩ := h.row.at_ ((hf j hj).trans hv)
  rw [e] at e2
  injection e2 with e2
  injection e2 with e3 e4
  subst e3; subst e4
  rw [Nat.add_assoc]
  exact h2
end
/-- The data's cell of an item in a block. -/
theorem item_cell {w : World} {g : Nat} {o : List UInt8} {A : Option Addr} {n c : Nat} {t : TypeId} {fr : Nat × Nat} (h : w.heap[g]? = some (.cells (itmC o A n c) t fr)) (ho : o.length = 16) : w.cell? ⟨g, 16, none⟩ = some (.slice A n c) := by
  rw [cell_of_row w g 16 _ _ _ h]
  unfold itmC
  rw [List.getElem?_toArray, List.getElem?_append_right (by rw [List.length_map]; omega), List.length_map, ho]
  rfl
theorem item_info2 {o : List UInt8} (h : o.length = 16) (A : Option Addr) (n c : Nat) : (Tryd.prog.info? 49).map (·.size) = some (itmC o A n c).size := by
  rw [itmC_size h]; exact item_info
theorem item_info3 (z : IM) (h : z.o.length = 16) : (Tryd.prog.info? 49).map (·.size) = some z.cells.length := by
  rw [z.cells_len h]; exact item_info
/-! ### Rows of bytes may be written, all else stands -/
structure NB (w w' : World) : Prop where
  os : w'.os = w.os
  tape : w'.tape = w.tape
  output : w'.output = w.output
  size : w.heap.size ≤ w'.heap.size
  block : ∀ k, k < w.heap.size → (∀ cur, w.heap[k]? ≠ some (.cells cur 5 (0, 0))) → w'.heap[k]? = w.heap[k]?
theorem NB.refl (w : World) : NB w w := ⟨rfl, rfl, rfl, Nat.le_refl _, fun _ _ _ => rfl⟩
theorem NB.trans {a b d : World} (h : NB a b) (k : NB b d) : NB a d := ⟨k.os.trans h.os, k.tape.trans h.tape, k.output.trans h.output, Nat.le_trans h.size k.size, fun i hi hn => by
  have h1 := h.block i hi hn
  rw [k.block i (Nat.lt_of_lt_of_le hi h.size) (fun cur => by rw [h1]; exact hn cur), h1]⟩
theorem NB.below {w w' : World} (h : Below w.heap.size w w') : NB w w' := ⟨h.os, h.tape, h.output, h.size, fun k hk _ => h.block k hk⟩
theorem NB.grown {w w' : World} {base n c : Nat} {A : Option Addr} {bs : List UInt8} (ho : OwnB w base A n c bs) (h : w.grownBy w' (blk A)) : NB w w' := ⟨h.os, h.tape, h.output, h.size, fun k hk hn => h.block k hk fun e => by
  obtain ⟨cur, h1⟩ := ho.kind k e.symm
  exact hn cur h1⟩
theorem NB.has {w w' : World} (h : NB w w') {g : Nat} {cs : Array Value} {t : TypeId} {mk : Nat × Nat} (hg : w.heap[g]? = some (.cells cs t mk)) (ht : t ≠ 5) : w'.heap[g]? = some (.cells cs t mk) := by
  rw [h.block g (block_lt hg) (fun cur e => by rw [hg] at e; injection e with e; injection e with _ e; exact ht e), hg]
theorem NB.ownR {w w' : World} (h : NB w w') {base n c k : Nat} {e : TypeId} {A : Option Addr} {vs : List Value} (ho : OwnR w base e k A n c vs) (ht : e ≠ 5) : OwnR w' base e k A n c vs := by
  refine ⟨ho.1, ?_⟩
  rcases ho.2 with h2 | ⟨g, cap, cur, h3, h4, h5, h6⟩
  · exact .inl h2
  · exact .inr ⟨g, cap, cur, h3, h4, h.has h5 ht, h6⟩
/-- Items whose data stand in an older world, whose row stands there or is the call's own. -/
structure ItemsP (wb w : World) (A : Option Addr) (n : Nat) (zs : List IM) : Prop where
  len : zs.length = n
  row : ReadR wb A (zs.flatMap IM.cells) ∨ ∃ c, OwnR w wb.heap.size 49 17 A n c (zs.flatMap IM.cells)
  each : ∀ z ∈ zs, ImR wb z
theorem ItemsZ.p {wb : World} {A : Option Addr} {n : Nat} {zs : List IM} (h : ItemsZ wb A n zs) (w : World) : ItemsP wb w A n zs := ⟨h.len, .inl h.row, h.each⟩
theorem ItemsP.nb {wb w w' : World} {A : Option Addr} {n : Nat} {zs : List IM} (h : ItemsP wb w A n zs) (hn : NB w w') : ItemsP wb w' A n zs := ⟨h.len, h.row.imp id fun ⟨c, h1⟩ => ⟨c, hn.ownR h1 (by decide)⟩, h.each⟩
theorem ItemsP.z {wb w : World} {A : Option Addr} {n : Nat} {zs : List IM} (h : ItemsP wb w A n zs) (hb : Below wb.heap.size wb w) : ItemsZ w A n zs := ⟨h.len, by
  rcases h.row with h1 | ⟨c, h1⟩
  · exact h1.below hb (Nat.le_refl _)
  · exact h1.reads, fun z hz => (h.each z hz).below hb⟩
end Go.Proofs.YtfampefflkkckaaDoor
namespace Go.Proofs.YtfampefflkkckaaDoor
open Go.RowKit Go
set_option linter.unusedVariables false
set_option linter.unusedSimpArgs false
set_option maxRecDepth 100000

theorem rightL_all (k : UInt8) (is : List Itm) (h0 : is ≠ []) (h : ∀ y ∈ is, mayL k y.2 = true ∧ y.2.length = dl (k, is)) : rightL (k, is) = true := right_of h0 h
theorem rightL_no (k : UInt8) (is : List Itm) (y : Itm) (hy : y ∈ is) (h : mayL k y.2 = false ∨ y.2.length ≠ dl (k, is)) : rightL (k, is) = false := by
  refine Bool.eq_false_iff.2 fun h2 => ?_
  have := right_each h2 y hy
  rcases h with h | h
  · rw [this.1] at h; cases h
  · exact h this.2
set_option maxHeartbeats 4000000 in
theorem lright_any (k : UInt8) (A : Option Addr) (n c : Nat) (zs : List IM) (w : World) (hI : ItemsZ w A n zs) (hc : n ≤ c) (hcm : c ≤ 9223372036854775807) (hn : n ≤ 1000000000) (hT : Sizes w) :
    Calls Tryd.prog 28 #[.agg #[.int .u8 (k.toNat : Int), .slice A n c]] w fun e w' => e = .returned (.bool (rightL (k, zs.map IM.itm))) ∧ Below w.heap.size w w' := by
  have HI := Lib.hid hI
  have HT := Lib.hid hT
  have hl := hI.len
  clear hI hT
  go_enter Tryd.func28, Tryd.ntmps28
  go_wp2
  refine wp_nm fun W1 hW1 => ?_
  have kb : W1.heap[w.heap.size]? = some (.cells #[.int .u8 (k.toNat : Int), .slice A n c] 41) := by rw [← hW1]; exact has_new w _
  have hb1 : Below w.heap.size w W1 := by rw [← hW1]; exact kp_alloc (Below.refl _ _) _
  have H1 := Lib.hid (And.intro kb (And.intro hb1 hb1.size))
  clear hW1 kb hb1
  go_loopw [8] (fun v wl => ∃ (i : Nat), v = .int .i64 (i : Int) ∧ i ≤ n ∧ Below W1.heap.size W1 wl ∧ Hid (∀ j z, j < i → zs[j]? = some z → mayL k z.d = true ∧ z.d.length = dl (k, zs.map IM.itm))) (fun v _ => (n - (intOf v).toNat))
  case atStart => exact ⟨0, rfl, Nat.zero_le _, Below.refl _ _, fun j z hj => absurd hj (by omega)⟩
  case round =>
    obtain ⟨i, rfl, hi, hb, hz⟩ := hrel
    rcases Nat.lt_or_ge i n with hlt | hge
    · have l1 : decide ((i : Int) < (n : Int)) = true := decide_eq_true (by omega)
      have l2 : decide (i < n) = true := decide_eq_true hlt
      have hIw := (HI.out.below H1.out.2.1).below hb
      obtain ⟨z, b, off, hg, hA, hbl, hr, hz1⟩ := hIw.at_ hlt
      obtain ⟨z0, b0, off0, hg0, hA0, hbl0, hr0, hz0⟩ := hIw.at_ (i := 0) (by omega)
      rw [hA] at hA0
      injection hA0 with hA0
      injection hA0 with e1 e2
      subst e1; subst e2
      have q0 : wr.cell? ⟨b, off + 16, none⟩ = some (.slice z0.a z0.n z0.c) := by
        have := hr0 16 (.slice z0.a z0.n z0.c) (by
          unfold IM.cells itmC
          rw [List.getElem?_append_right (by rw [List.length_map]; have := hz0.o; omega), List.length_map, hz0.o]; rfl)
        rw [show off + 0 * 17 + 16 = off + 16 by omega] at this
        exact this
      subst hA
      have CF := Lib.hid (fun W (h : Below wr.heap.size wr W) => fits_any k z.a z.n z.c z.d W (hz1.r.below h) hz1.c hz1.m (((HT.out.below' H1.out.2.1).below' hb).below' h))
      have K := Lib.hid (And.intro hb (And.intro hz (And.intro hr (And.intro hz1 (And.intro q0 (And.intro hz0 (And.intro hg (And.intro hg0 hb.size))))))))
      have KB := Lib.hid (has_below H1.out.1 hb)
      clear hb hz hr hz1 q0 hz0 hg hg0 hIw hr0 hbl0 hi
      go_upto_region 4 with (first
        | (with_reducible refine wpList_load_mid rfl _ _ rfl b (off + i * 17) rfl z.cells _ K.out.2.2.1 Tryd.underlying49 rfl (item_info3 z K.out.2.2.2.1.o) ?_)
        | (refine wpList_store_row rfl _ _ _ rfl wr.heap.size (itmC z.o z.a z.n z.c) rfl rfl _ _ (has_new wr _) (item_info2 K.out.2.2.2.1.o _ _ _) (by rw [itmC_size K.out.2.2.2.1.o]; rfl) (itmC_one _ _ _ _) ?_))
      refine wp_nm fun W2 hW2 => ?_
      go_simp
      have k2 : W2.heap[wr.heap.size]? = some (.cells (itmC z.o z.a z.n z.c) 49) := by rw [← hW2]; exact setRow_heap _ _ _ _ _ _ (has_new wr _)
      have hb2 : Below wr.heap.size wr W2 := by rw [← hW2]; exact below_setRow (kp_alloc (Below.refl _ _) _) (Nat.le_refl _) _
      have f0 : ∀ x : Up W2, x.w.cell? ⟨w.heap.size, 0, none⟩ = some (.int .u8 (k.toNat : Int)) := Up.cell (kp_cell hb2 ((cells_2 KB.out).1))
      have f1 : ∀ x : Up W2, x.w.cell? ⟨w.heap.size, 1, none⟩ = some (.slice (some ⟨b, off, none⟩) n c) := Up.cell (kp_cell hb2 ((cells_2 KB.out).2))
      have f2 : ∀ x : Up W2, x.w.cell? ⟨wr.heap.size, 16, none⟩ = some (.slice z.a z.n z.c) := Up.cell (item_cell k2 K.out.2.2.2.1.o)
      have f3 : ∀ x : Up W2, x.w.cell? ⟨b, off + 16, none⟩ = some (.slice z0.a z0.n z0.c) := Up.cell (kp_cell hb2 K.out.2.2.2.2.1)
      have C : Hid (∀ x : Up W2, Calls Tryd.prog 37 #[.int .u8 (k.toNat : Int), .slice z.a z.n z.c] x.w fun e w' => e = .returned (.bool (mayL k z.d)) ∧ Below x.w.heap.size x.w w') := fun x => CF.out x.w (kp_call hb2 x.b)
      have HB2 := Lib.hid (kp_call K.out.1 hb2)
      clear hW2 k2 hb2 CF KB
      have D : Hid (dl (k, zs.map IM.itm) = z0.n) := by
        show ((zs.map IM.itm).headD ([], [])).2.length = z0.n
        have h1 := K.out.2.2.2.2.2.2.2.1
        match zs, h1 with
        | y :: ys, h1 =>
          injection h1 with h1
          subst h1
          exact K.out.2.2.2.2.2.1.r.1
      have HM : z.itm ∈ zs.map IM.itm := List.mem_map_of_mem (List.mem_of_getElem? K.out.2.2.2.2.2.2.1)
      have HM := Lib.hid HM
      have hzl := Lib.hid K.out.2.2.2.1.r.1
      obtain ⟨v, hv⟩ : ∃ v, mayL k z.d = v := ⟨_, rfl⟩
      rw [hv] at C
      have HV := Lib.hid hv
      clear hv
      cases v with
      | false =>
        refine wp_region_up (by kernel_rfl) (by kernel_rfl) ?_
        repeat (go_big_quiet_step (first | (go_at_call 37; with_reducible exact Up.calls (C.out _))))
        refine wpQuiet_nil ?_
        rintro _ ⟨x, rfl⟩
        go_wp2
        go_ret
        exact ⟨by rw [rightL_no k _ z.itm HM.out (.inl HV.out)]; rfl, H1.out.2.1.trans ((HB2.out.trans (x.b.mono (by have := HB2.out.size; exact this))).mono H1.out.2.2)⟩
      | true =>
        by_cases hd : z.n = z0.n
        · have d1 : ((z.n : Int) != (z0.n : Int)) = false := by rw [hd]; simp
          have d2 : (z.n != z0.n) = false := by rw [hd]; simp
          have d3 : ((z.n : Int) == (z0.n : Int)) = true := by rw [hd]; simp
          have d4 : (z.n == z0.n) = true := by rw [hd]; simp
          have HD := Lib.hid hd
          clear hd
          refine wp_region_up (by kernel_rfl) (by kernel_rfl) ?_
          repeat (go_big_quiet_step (first | (go_at_call 37; with_reducible exact Up.calls (C.out _))))
          refine wpQuiet_nil ?_
          rintro _ ⟨x, rfl⟩
          have l3 : IntKind.i64.wrap ((i : Int) + 1) = ((i + 1 : Nat) : Int) := IntWalk.i64_in _ (by omega)
          go_wp2
          go_roundw
          case rel =>
            refine ⟨i + 1, rfl, hlt, kp_call HB2.out x.b, fun j y hj hy => ?_⟩
            rcases Nat.lt_or_ge j i with h | h
            · exact K.out.2.1 j y h hy
            · obtain rfl : j = i := by omega
              rw [K.out.2.2.2.2.2.2.1] at hy
              injection hy with hy
              subst hy
              exact ⟨HV.out, by rw [D.out, hzl.out, HD.out]⟩
          case measure => simp [intOf]; omega
        · have d1 : ((z.n : Int) != (z0.n : Int)) = true := bne_iff_ne.2 (by omega)
          have d2 : (z.n != z0.n) = true := bne_iff_ne.2 hd
          have d3 : ((z.n : Int) == (z0.n : Int)) = false := beq_eq_false_iff_ne.2 (by omega)
          have d4 : (z.n == z0.n) = false := beq_eq_false_iff_ne.2 hd
          have HD := Lib.hid hd
          clear hd
          refine wp_region_up (by kernel_rfl) (by kernel_rfl) ?_
          repeat (go_big_quiet_step (first | (go_at_call 37; with_reducible exact Up.calls (C.out _))))
          refine wpQuiet_nil ?_
          rintro _ ⟨x, rfl⟩
          go_wp2
          go_ret
          exact ⟨by rw [rightL_no k _ z.itm HM.out (.inr (by rw [D.out]; show z.d.length ≠ _; rw [hzl.out]; exact HD.out))]; rfl, H1.out.2.1.trans ((HB2.out.trans (x.b.mono (by have := HB2.out.size; exact this))).mono H1.out.2.2)⟩
    · obtain rfl : i = n := by omega
      have l1 : decide ((i : Int) < (i : Int)) = false := decide_eq_false (by omega)
      have l2 : decide (i < i) = false := decide_eq_false (by omega)
      have f1 := kp_cell hb ((cells_2 H1.out.1).2)
      have K := Lib.hid (And.intro hb hz)
      clear hb hz hge hi
      rcases Nat.eq_zero_or_pos i with h0 | h0
      · have g1 : decide ((i : Int) > (0 : Int)) = false := decide_eq_false (by omega)
        have g2 : decide ((0 : Int) < (i : Int)) = false := decide_eq_false (by omega)
        have g3 : decide (0 < i) = false := decide_eq_false (by omega)
        have E : rightL (k, zs.map IM.itm) = false := by
          match zs, hl with
          | [], _ => rfl
          | y :: ys, hl => simp at hl; omega
        have HE := Lib.hid E
        clear E h0 hl
        go_wp2
        go_ret
        exact ⟨by rw [HE.out]; rfl, H1.out.2.1.trans (K.out.1.mono H1.out.2.2)⟩
      · have g1 : decide ((i : Int) > (0 : Int)) = true := decide_eq_true (by omega)
        have g2 : decide ((0 : Int) < (i : Int)) = true := decide_eq_true (by omega)
        have g3 : decide (0 < i) = true := decide_eq_true (by omega)
        have E : rightL (k, zs.map IM.itm) = true := rightL_all k _ (fun e => by
          have e2 := congrArg List.length e
          simp at e2
          rw [e2] at hl
          simp at hl; omega) fun y hy => by
          obtain ⟨z, hz, rfl⟩ := List.mem_map.1 hy
          obtain ⟨j, hj⟩ := List.getElem?_of_mem hz
          exact K.out.2 j z (by rw [← hl]; exact (List.getElem?_eq_some_iff.1 hj).1) hj
        have HE := Lib.hid E
        clear E h0 hl
        go_wp2
        go_ret
        exact ⟨by rw [HE.out]; rfl, H1.out.2.1.trans (K.out.1.mono H1.out.2.2)⟩
end Go.Proofs.YtfampefflkkckaaDoor
namespace Go.Proofs.YtfampefflkkckaaDoor
open Go.RowKit Go
set_option linter.unusedVariables false
set_option linter.unusedSimpArgs false
set_option maxRecDepth 100000

attribute [local go_sem ↓] Go.wp_at_zero Go.wp_at_succ
theorem step_app {ops : Array Oper} {o : Oper} {a : Act} {w : World} {K : Act → World → Prop} {Q : Exit → Act → World → Prop} {E : Prop} (hgd : o.guard = none) (s x : Operand)
    (ho : o.op = .call { callee := .builtin .append, args := #[s, x], argTypes := #[22, 22] }) (hty : o.type = 22)
    (base : Nat) (A0 : Option Addr) (n0 c0 : Nat) (bs : List UInt8) (hs : a.eval s = .slice A0 n0 c0) (hown : OwnB w base A0 n0 c0 bs)
    (A : Option Addr) (m c : Nat) (news : List UInt8) (hx : a.eval x = .slice A m c) (hr : RB w A m news) (hlim : n0 + m ≤ 140737488355328) (hbase : base ≤ w.heap.size)
    (h : ∀ A' c' w', OwnB w' base A' (n0 + m) c' (bs ++ news) → w.grownBy w' (blk A0) → K (a.put o.dst (.slice A' (n0 + m) c')) w') :
    if Region.wanted o (yielded ops a.tmps) = true then Oper.wp Tryd.prog o a w K Q else E := by
  have hw : Region.wanted o (yielded ops a.tmps) = true := by simp [Region.wanted, hgd]
  rw [if_pos hw]
  have hm := hr.1
  subst hm
  obtain ⟨A', c', w', hrun, h2, h3⟩ := run_app w base A0 n0 c0 bs hown w.heap.size A c news hr.2 (by rw [hown.len]; exact hlim) hbase
  unfold Oper.wp execOp
  simp only [ho, resolve, invoke, builtin, Sem.run_bind, Sem.run_pure, Result.andThen_ok, List.map_toArray, List.map_cons, List.map_nil, hs, hx, hty, hrun]
  exact h A' c' w' h2 h3
theorem rb_block {w : World} {g : Nat} {cs : Array Value} {t : TypeId} {fr : Nat × Nat} {bs : List UInt8} {n : Nat} (hk : w.heap[g]? = some (.cells cs t fr)) (h : cs.toList.take n = bs.map bv) (hn : bs.length = n) : RB w (some ⟨g, 0, none⟩) n bs := by
  refine ⟨hn, fun hne => ⟨g, 0, rfl, block_lt hk, fun k hk2 => ?_⟩⟩
  rw [cell_of_row w g (0 + k) _ _ _ hk]
  have h8 : (cs.toList.take n)[k]? = some (bv bs[k]) := by
    rw [h, List.getElem?_map, List.getElem?_eq_getElem hk2]
    rfl
  rw [List.getElem?_take, if_pos (by omega)] at h8
  rw [Nat.zero_add, ← Array.getElem?_toList, h8]
theorem item_owner {w : World} {g : Nat} {o : List UInt8} {A : Option Addr} {n c : Nat} {t : TypeId} {fr : Nat × Nat} (h : w.heap[g]? = some (.cells (itmC o A n c) t fr)) (ho : o.length = 16) : RB w (some ⟨g, 0, none⟩) 16 o :=
  rb_block h (by unfold itmC; rw [List.toList_toArray, List.take_append_of_le_length (by rw [List.length_map]; omega), List.take_of_length_le (by rw [List.length_map]; omega)]) ho
/-- A call that writes on bytes, and keeps a list in a block of its own. -/
structure PL (wb w : World) (g : Nat) (cs : Array Value) (t : TypeId) (W : World) : Prop where
  b : Below wb.heap.size wb W
  n : NB w W
  h : W.heap[g]? = some (.cells cs t)
  ne : t ≠ 5
section
variable {wb w W W' : World} {g : Nat} {cs : Array Value} {t : TypeId}
theorem PL.drew (h : PL wb w g cs t W) : PL wb w g cs t W.drew := ⟨h.b.drew, ⟨h.n.os, h.n.tape, h.n.output, h.n.size, h.n.block⟩, h.h, h.ne⟩
theorem PL.call (h : PL wb w g cs t W) (hb : Below W.heap.size W W') : PL wb w g cs t W' := ⟨kp_call h.b hb, h.n.trans (NB.below hb), has_below h.h hb, h.ne⟩
theorem PL.alloc (h : PL wb w g cs t W) (o : Obj) : PL wb w g cs t (W.alloc o) := h.call (kp_alloc (Below.refl _ _) _)
theorem PL.grow (h : PL wb w g cs t W) {A : Option Addr} {n c : Nat} {bs : List UInt8} (ho : OwnB W wb.heap.size A n c bs) (hg : W.grownBy W' (blk A)) : PL wb w g cs t W' :=
  ⟨h.b.grown hg h.b.size (fun k e => (ho.blk_lt e).1), h.n.trans (NB.grown ho hg), (NB.grown ho hg).has h.h h.ne, h.ne⟩
end
/-- A block with an item beside. -/
structure PX (wb w : World) (g : Nat) (cs : Array Value) (t : TypeId) (gx : Nat) (xs : Array Value) (W : World) : Prop where
  p : PL wb w g cs t W
  x : W.heap[gx]? = some (.cells xs 49)
theorem PX.drew {wb w W : World} {g gx : Nat} {cs xs : Array Value} {t : TypeId} (h : PX wb w g cs t gx xs W) : PX wb w g cs t gx xs W.drew := ⟨h.p.drew, h.x⟩
theorem PX.grow {wb w W W' : World} {g gx : Nat} {cs xs : Array Value} {t : TypeId} (h : PX wb w g cs t gx xs W) {A : Option Addr} {n c : Nat} {bs : List UInt8} (ho : OwnB W wb.heap.size A n c bs) (hg : W.grownBy W' (blk A)) : PX wb w g cs t gx xs W' :=
  ⟨h.p.grow ho hg, (NB.grown ho hg).has h.x (by decide)⟩
/-- The bytes ahead of a list's items. -/
def headB (k : UInt8) (d n : Nat) : List UInt8 := guidL k ++ (leB (28 + (16 + d) * n) 4 ++ ([0, 0, 0, 0] ++ leB (16 + d) 4))
theorem lst_head (k : UInt8) (is : List Itm) : lstB (k, is) = headB k (dl (k, is)) is.length ++ bodyL is := by
  unfold lstB headB; simp only [List.append_assoc]
theorem body_take (zs : List IM) (i : Nat) (z : IM) (h : zs[i]? = some z) : bodyL ((zs.take (i + 1)).map IM.itm) = bodyL ((zs.take i).map IM.itm) ++ z.o ++ z.d := by
  rw [List.take_add_one, h]
  simp only [Option.toList_some, List.map_append, List.map_cons, List.map_nil]
  unfold bodyL
  rw [List.flatMap_append, List.flatMap_cons, List.flatMap_nil, List.append_nil, List.append_assoc]
  rfl
set_option maxHeartbeats 8000000 in
theorem putList_any (wb : World) (A0 : Option Addr) (n0 c0 : Nat) (bs : List UInt8) (k : UInt8) (A : Option Addr) (n c : Nat) (zs : List IM) (w : World) (hb : Below wb.heap.size wb w) (ho : OwnB w wb.heap.size A0 n0 c0 bs) (hI : ItemsP wb w A n zs) (hr : rightL (k, zs.map IM.itm) = true)
    (hc : n ≤ c) (hcm : c ≤ 9223372036854775807) (hn : n ≤ 2000000) (hn0 : n0 ≤ 100000000000) (hT : Sizes wb) :
    Calls Tryd.prog 29 #[.slice A0 n0 c0, .agg #[.int .u8 (k.toNat : Int), .slice A n c]] w fun e w' => ∃ A' n' c', e = .returned (.slice A' n' c') ∧ OwnB w' wb.heap.size A' n' c' (bs ++ lstB (k, zs.map IM.itm)) ∧ Below wb.heap.size wb w' ∧ NB w w' := by
  have hl := hI.len
  have hd := right_dl hr
  have hpos := lst_items hr
  have hE := right_each hr
  have hGL := (guid_kind (right_kind hr)).1
  obtain ⟨d, hdd⟩ : ∃ d, dl (k, zs.map IM.itm) = d := ⟨_, rfl⟩
  rw [hdd] at hd hE
  simp only [List.length_map] at hpos
  obtain ⟨gs, hgs⟩ : ∃ gs, gs = (⟨(guidL k).toArray⟩ : ByteArray) := ⟨_, rfl⟩
  have G : Hid (∀ W, Calls Tryd.prog 40 #[.int .u8 (k.toNat : Int)] W fun e w' => e = .returned (.string gs) ∧ W = w') := fun W => by rw [hgs]; exact guidOf_any k W
  have gs1 : gs.size = 16 := by rw [hgs]; exact hGL
  have GS := Lib.hid (show gs.data.toList = guidL k by rw [hgs])
  clear hgs hGL
  have HI := Lib.hid hI
  have HT := Lib.hid hT
  have HO := Lib.hid ho
  have HDD := Lib.hid (And.intro hdd (And.intro hE hl))
  have HR := Lib.hid hr
  have HB := Lib.hid hb
  clear hI hT ho hdd hE hr hb
  go_enter Tryd.func29, Tryd.ntmps29
  go_upto_region 1 with fail
  refine wp_nm fun W1 hW1 => ?_
  have P1 : PL wb w w.heap.size #[.int .u8 (k.toNat : Int), .slice A n c] 41 W1 := by
    rw [← hW1]
    exact ⟨kp_alloc HB.out _, NB.below (kp_alloc (Below.refl _ _) _), has_new w _, by decide⟩
  have O1 : OwnB W1 wb.heap.size A0 n0 c0 bs := by rw [← hW1]; exact HO.out.alloc _
  clear hW1
  obtain ⟨z0, b, off, hg0, hA, hbl, hr0, hz0⟩ := ((HI.out.nb P1.n).z P1.b).at_ (i := 0) (by omega)
  have q0 : W1.cell? ⟨b, off + 16, none⟩ = some (.slice z0.a z0.n z0.c) := by
    have := hr0 16 (.slice z0.a z0.n z0.c) (by
      unfold IM.cells itmC
      rw [List.getElem?_append_right (by rw [List.length_map]; have := hz0.o; omega), List.length_map, hz0.o]; rfl)
    rw [show off + 0 * 17 + 16 = off + 16 by omega] at this
    exact this
  subst hA
  obtain rfl : d = z0.n := by
    rw [← HDD.out.1, ← hz0.r.1]
    show ((zs.map IM.itm).headD ([], [])).2.length = z0.d.length
    match zs, hg0 with
    | y :: ys, h1 =>
      injection h1 with h1
      subst h1
      rfl
  obtain ⟨s, hs⟩ : ∃ s, s = 16 + z0.n := ⟨_, rfl⟩
  obtain ⟨q, hq⟩ : ∃ q, q = s * n := ⟨_, rfl⟩
  obtain ⟨t, ht⟩ : ∃ t, t = 28 + q := ⟨_, rfl⟩
  have hqb : q ≤ 8208 * 2000000 := by rw [hq]; exact Nat.mul_le_mul (by omega) hn
  have w1 : IntKind.i64.wrap (16 + (z0.n : Int)) = (s : Int) := by rw [show (16 : Int) + (z0.n : Int) = (s : Int) by omega]; exact IntWalk.i64_in _ (by omega)
  have w2 : IntKind.i64.wrap ((s : Int) * (n : Int)) = (q : Int) := by rw [show (s : Int) * (n : Int) = (q : Int) by rw [hq]; simp]; exact IntWalk.i64_in _ (by omega)
  have w3 : IntKind.i64.wrap (28 + (q : Int)) = (t : Int) := by rw [show (28 : Int) + (q : Int) = (t : Int) by omega]; exact IntWalk.i64_in _ (by omega)
  have w4 : IntKind.u64.wrap (t : Int) = (t : Int) := IntWalk.u64_in _ (by omega)
  have w5 : IntKind.u64.wrap (s : Int) = (s : Int) := IntWalk.u64_in _ (by omega)
  have l0 : 0 < n := by omega
  obtain ⟨e0, e1⟩ := cells_2 P1.h
  have HST : Hid (headB k z0.n n = guidL k ++ (leB t 4 ++ ([0, 0, 0, 0] ++ leB s 4))) := by unfold Hid headB; rw [ht, hq, hs]
  have HTB := Lib.hid (And.intro (show t < 18446744073709551616 by omega) (And.intro (show s < 18446744073709551616 by omega) (And.intro hs hd)))
  have LT := Lib.hid (leB_len t 4)
  have LS := Lib.hid (leB_len s 4)
  have PT : Hid (∀ W, Sizes W → Calls Tryd.prog 41 #[.slice none 0 0, .int .u64 t, .int .i64 4] W (Fresh W (leB t 4))) := fun W hW => put_ok none 0 0 [] t 4 W (RB.nil _ _) hW (by omega) rfl HTB.out.1
  have PS : Hid (∀ W, Sizes W → Calls Tryd.prog 41 #[.slice none 0 0, .int .u64 s, .int .i64 4] W (Fresh W (leB s 4))) := fun W hW => put_ok none 0 0 [] s 4 W (RB.nil _ _) hW (by omega) rfl HTB.out.2.1
  generalize leB t 4 = lt at *
  generalize leB s 4 = ls at *
  have HQ := Lib.hid (And.intro hs (And.intro hq (And.intro ht hqb)))
  clear hs hq ht hqb
  go_wp2_with fail
  refine (G.out W1).mono ?_
  rintro e W1' ⟨rfl, rfl⟩
  have PP1 := Lib.hid P1
  have OO1 := Lib.hid O1
  clear P1 O1 q0 e0 e1 G
  go_wp2_with (at_builtin; refine wpList_aps _ _ rfl rfl rfl wb.heap.size A0 n0 c0 bs rfl OO1.out gs rfl (by omega) PP1.out.b.size ?_)
  intro A2 c2 W2 ho2 hg2
  have P2 := PP1.out.grow OO1.out hg2
  rw [GS.out] at ho2
  try rw [gs1] at ho2
  try rw [gs1]
  have PP2 := Lib.hid P2
  have OO2 := Lib.hid ho2
  obtain ⟨e0, e1⟩ := cells_2 P2.h
  clear hg2 P2 ho2 GS gs1 PP1 OO1
  go_wp2_with fail
  refine (PT.out W2 (HT.out.below' PP2.out.b)).mono ?_
  rintro e W3 ⟨A3, n3, c3, rfl, ho3, hb3⟩
  obtain rfl : 4 = n3 := LT.out.symm.trans ho3.len
  have PP3 := Lib.hid (PP2.out.call hb3)
  have OO3 := Lib.hid (OO2.out.below hb3 (Nat.le_refl _))
  have RR3 := Lib.hid ho3.rb
  clear hb3 ho3 PP2 OO2 e0 e1
  go_wp2_with (at_builtin; refine wpList_apn _ _ rfl rfl rfl wb.heap.size A2 (n0 + 16) c2 _ rfl OO3.out A3 4 c3 _ rfl RR3.out (by omega) PP3.out.b.size ?_)
  intro A4 c4 W4 ho4 hg4
  have PP4 := Lib.hid (PP3.out.grow OO3.out hg4)
  have OO4 := Lib.hid ho4
  clear hg4 ho4 PP3 OO3 RR3 PT
  have hR4 : Hid (RB (W4.alloc (.cells #[.int .u8 0, .int .u8 0, .int .u8 0, .int .u8 0] 5)) (some ⟨W4.heap.size, 0, none⟩) 4 [0, 0, 0, 0]) := rb_block (has_new W4 _) rfl rfl
  have PP5 := Lib.hid (PP4.out.alloc (.cells #[.int .u8 0, .int .u8 0, .int .u8 0, .int .u8 0] 5))
  have OO5 := Lib.hid (OO4.out.alloc (.cells #[.int .u8 0, .int .u8 0, .int .u8 0, .int .u8 0] 5))
  go_wp2_with (at_builtin; refine wpList_apn _ _ rfl rfl rfl wb.heap.size A4 (n0 + 16 + 4) c4 _ rfl OO5.out (some ⟨W4.heap.size, 0, none⟩) 4 4 _ rfl hR4.out (by omega) PP5.out.b.size ?_)
  intro A6 c6 W6 ho6 hg6
  have PP6 := Lib.hid (PP5.out.grow OO5.out hg6)
  have OO6 := Lib.hid ho6
  clear hg6 ho6 PP4 OO4 PP5 OO5 hR4
  go_wp2_with fail
  refine (PS.out W6 (HT.out.below' PP6.out.b)).mono ?_
  rintro e W7 ⟨A7, n7, c7, rfl, ho7, hb7⟩
  obtain rfl : 4 = n7 := LS.out.symm.trans ho7.len
  have PP7 := Lib.hid (PP6.out.call hb7)
  have OO7 := Lib.hid (OO6.out.below hb7 (Nat.le_refl _))
  have RR7 := Lib.hid ho7.rb
  clear hb7 ho7 PP6 OO6
  go_wp2_with (at_builtin; refine wpList_apn _ _ rfl rfl rfl wb.heap.size A6 (n0 + 16 + 4 + 4) c6 _ rfl OO7.out A7 4 c7 _ rfl RR7.out (by omega) PP7.out.b.size ?_)
  intro A8 c8 W8 ho8 hg8
  have PP8 := Lib.hid (PP7.out.grow OO7.out hg8)
  have OO8 := Lib.hid ho8
  clear hg8 ho8 PP7 OO7 RR7 PS
  obtain ⟨e0, e1⟩ := cells_2 PP8.out.h
  obtain ⟨n8, hn8⟩ : ∃ n8, n0 + 16 + 4 + 4 + 4 = n8 := ⟨_, rfl⟩
  rw [hn8] at OO8 ⊢
  have HN8 := Lib.hid hn8
  clear hn8
  go_wp2
  have OO9 : Hid (OwnB W8 wb.heap.size A8 n8 c8 (bs ++ headB k z0.n n)) := by unfold Hid; rw [HST.out]; exact OO8.out
  obtain ⟨hd, hhd⟩ : ∃ hd, bs ++ headB k z0.n n = hd := ⟨_, rfl⟩
  rw [hhd] at OO9
  have HHD := Lib.hid hhd.symm
  clear hhd HST LT LS e0 e1 OO8
  have HZ0 := Lib.hid (And.intro hz0 hg0)
  clear hz0 hg0 hr0 hbl
  go_loopw [0, 41] (fun v u wl => ∃ (i : Nat) (A' : Option Addr) (n' c' : Nat), v = .slice A' n' c' ∧ u = .int .i64 (i : Int) ∧ i ≤ n ∧ Hid (OwnB wl wb.heap.size A' n' c' (hd ++ bodyL ((zs.take i).map IM.itm)) ∧ PL wb w w.heap.size #[.int .u8 (k.toNat : Int), .slice (some ⟨b, off, none⟩) n c] 41 wl)) (fun _ u _ => (n - (intOf u).toNat))
  case atStart => exact ⟨0, A8, n8, c8, rfl, rfl, Nat.zero_le _, by rw [List.take_zero]; exact (List.append_nil hd).symm ▸ OO9.out, PP8.out⟩
  case round =>
    obtain ⟨i, A', n', c', rfl, rfl, hi, hS⟩ := hrel
    have hlen : n' = n0 + 28 + (16 + z0.n) * i := by
      have h1 := hS.1.len
      have h2 : (headB k z0.n n).length = 28 := by
        unfold headB
        rw [List.length_append, List.length_append, List.length_append, leB_len, leB_len, (guid_kind (right_kind HR.out)).1]; rfl
      have h3 : (bodyL ((zs.take i).map IM.itm)).length = (16 + z0.n) * ((zs.take i).map IM.itm).length := body_len z0.n _ (fun y hy => by
        obtain ⟨z, hz, rfl⟩ := List.mem_map.1 hy
        have hz := List.mem_of_mem_take hz
        exact ⟨(((HI.out.nb hS.2.n).z hS.2.b).each z hz).o, (HDD.out.2.1 z.itm (List.mem_map_of_mem hz)).2⟩)
      rw [List.length_map, List.length_take, HDD.out.2.2, Nat.min_eq_left hi] at h3
      rw [HHD.out, List.length_append, List.length_append, HO.out.len, h2, h3] at h1
      omega
    have hbn : (16 + z0.n) * i ≤ 8208 * 2000000 := Nat.mul_le_mul (by omega) (by omega)
    have hlim : n' ≤ 200000000000 := by omega
    clear hlen hbn
    rcases Nat.lt_or_ge i n with hlt | hge
    · have l1 : decide ((i : Int) < (n : Int)) = true := decide_eq_true (by omega)
      have l2 : decide (i < n) = true := decide_eq_true hlt
      obtain ⟨z, b9, off9, hg, hA, hbl, hr, hz1⟩ := ((HI.out.nb hS.2.n).z hS.2.b).at_ hlt
      injection hA with hA
      injection hA with e1 e2
      subst e1; subst e2
      have K := Lib.hid (And.intro hr (And.intro hz1 (And.intro hg hS)))
      clear hr hz1 hg hS hi hbl
      go_upto_region 9 with (first
        | (with_reducible refine wpList_load_mid rfl _ _ rfl b (off + i * 17) rfl z.cells _ K.out.1 Tryd.underlying49 rfl (item_info3 z K.out.2.1.o) ?_)
        | (refine wpList_store_row rfl _ _ _ rfl wr.heap.size (itmC z.o z.a z.n z.c) rfl rfl _ _ (has_new wr _) (item_info2 K.out.2.1.o _ _ _) (by rw [itmC_size K.out.2.1.o]; rfl) (itmC_one _ _ _ _) ?_))
      refine wp_nm fun W2 hW2 => ?_
      go_simp
      have hb2 : Below wr.heap.size wr W2 := by rw [← hW2]; exact below_setRow (kp_alloc (Below.refl _ _) _) (Nat.le_refl _) _
      have X2 : PX wb w w.heap.size #[.int .u8 (k.toNat : Int), .slice (some ⟨b, off, none⟩) n c] 41 wr.heap.size (itmC z.o z.a z.n z.c) W2 := ⟨K.out.2.2.2.2.call hb2, by rw [← hW2]; exact setRow_heap _ _ _ _ _ _ (has_new wr _)⟩
      have O2 := Lib.hid (K.out.2.2.2.1.below hb2 (Nat.le_refl _))
      have XX2 := Lib.hid X2
      have hzd : Hid (∀ W, Below wb.heap.size wb W → RB W z.a z.n z.d) := fun W h => (HI.out.each z (List.mem_of_getElem? K.out.2.2.1)).r.below h
      have KC : Hid (∀ W, PX wb w w.heap.size #[.int .u8 (k.toNat : Int), .slice (some ⟨b, off, none⟩) n c] 41 wr.heap.size (itmC z.o z.a z.n z.c) W → W.cell? ⟨wr.heap.size, 16, none⟩ = some (.slice z.a z.n z.c)) := fun W h => item_cell h.x K.out.2.1.o
      have c2 := KC.out W2 X2
      have hzn : z.n ≤ 8192 := by
        have h1 := (HDD.out.2.1 z.itm (List.mem_map_of_mem (List.mem_of_getElem? K.out.2.2.1))).2
        have h2 := K.out.2.1.r.1
        have h3 := HTB.out.2.2.2.2
        have h4 : z.d.length = z0.n := h1
        omega
      have hz16 := Lib.hid K.out.2.1.o
      clear hW2 hb2
      go_region_held3 (fun W => W.cell? ⟨wr.heap.size, 16, none⟩ = some (.slice z.a z.n z.c) ∧ PX wb w w.heap.size #[.int .u8 (k.toNat : Int), .slice (some ⟨b, off, none⟩) n c] 41 wr.heap.size (itmC z.o z.a z.n z.c) W)
        ((with_reducible refine ⟨KC.out _ ?_, ?_⟩) <;> (repeat (with_reducible (first | assumption | refine PX.drew ?_))))
        (first
          | ((refine step_app rfl _ _ (by rfl) (by rfl) wb.heap.size A' n' c' _ (by rfl) (by first | exact O2.out | exact O2.out.drew) (some ⟨wr.heap.size, 0, none⟩) 16 16 z.o (by rfl) (by first | exact item_owner XX2.out.x hz16.out | exact item_owner XX2.out.drew.x hz16.out) (by omega) (by first | exact XX2.out.p.b.size | exact XX2.out.drew.p.b.size) ?_); intro A4 c4 w4 hown4 hg4; have X4 : PX wb w w.heap.size #[.int .u8 (k.toNat : Int), .slice (some ⟨b, off, none⟩) n c] 41 wr.heap.size (itmC z.o z.a z.n z.c) w4 := (by first | exact XX2.out.grow O2.out hg4 | exact XX2.out.drew.grow O2.out.drew hg4); have O4 := Lib.hid hown4; have XX4 := Lib.hid X4; clear hown4 hg4)
          | ((refine step_app rfl _ _ (by rfl) (by rfl) wb.heap.size A4 (n' + 16) c4 _ (by rfl) (by first | exact O4.out | exact O4.out.drew) z.a z.n z.c z.d (by rfl) (by first | exact hzd.out _ XX4.out.p.b | exact hzd.out _ XX4.out.drew.p.b) (by omega) (by first | exact XX4.out.p.b.size | exact XX4.out.drew.p.b.size) ?_); intro A5 c5 w5 hown5 hg5; have X5 : PX wb w w.heap.size #[.int .u8 (k.toNat : Int), .slice (some ⟨b, off, none⟩) n c] 41 wr.heap.size (itmC z.o z.a z.n z.c) w5 := (by first | exact XX4.out.grow O4.out hg5 | exact XX4.out.drew.grow O4.out.drew hg5); have O5 := Lib.hid hown5; have XX5 := Lib.hid X5; clear hown5 hg5))
      have l3 : IntKind.i64.wrap ((i : Int) + 1) = ((i + 1 : Nat) : Int) := IntWalk.i64_in _ (by omega)
      go_wp2
      go_roundw
      case rel => exact ⟨i + 1, A5, n' + 16 + z.n, c5, rfl, rfl, hlt, by rw [body_take zs i z K.out.2.2.1]; simpa [List.append_assoc] using O5.out, XX5.out.p⟩
      case measure => simp [intOf]; omega
    · obtain rfl : i = n := by omega
      have l1 : decide ((i : Int) < (i : Int)) = false := decide_eq_false (by omega)
      have l2 : decide (i < i) = false := decide_eq_false (by omega)
      have K := Lib.hid hS
      clear hS
      go_wp2
      go_ret
      refine ⟨A', n', c', rfl, ?_, K.out.2.b, K.out.2.n⟩
      have h1 := K.out.1
      rw [List.take_of_length_le (by rw [HDD.out.2.2]; exact Nat.le_refl _), HHD.out, List.append_assoc] at h1
      rw [lst_head, HDD.out.1, List.length_map, HDD.out.2.2]
      exact h1
end Go.Proofs.YtfampefflkkckaaDoor
namespace Go.Proofs.YtfampefflkkckaaDoor
open Go.RowKit Go
set_option linter.unusedVariables false
set_option linter.unusedSimpArgs false
set_option maxRecDepth 100000

/-- What Write answers. -/
def WritePost (w : World) (l : List Lst) (e : Ending) (w' : World) : Prop :=
  (if l.all rightL = true then (if 65536 < (allB l).length then e = .returned (.tuple #[.slice none 0 0, .int .i64 10]) else ∃ A n c, e = .returned (.tuple #[.slice A n c, .int .i64 0]) ∧ OwnB w' w.heap.size A n c (allB l))
    else e = .returned (.tuple #[.slice none 0 0, .int .i64 1])) ∧ Below w.heap.size w w'
theorem allB_take (ls : List LM) (i : Nat) (z : LM) (h : ls[i]? = some z) : allB ((ls.take (i + 1)).map LM.lst) = allB ((ls.take i).map LM.lst) ++ lstB z.lst := by
  rw [List.take_add_one, h]
  simp only [Option.toList_some, List.map_append, List.map_cons, List.map_nil]
  rw [allB_append, allB_cons]
  show _ = _
  rw [show allB [] = [] from rfl, List.append_nil]
theorem allB_take_le (ls : List LM) (i : Nat) : (allB ((ls.take i).map LM.lst)).length ≤ (allB (ls.map LM.lst)).length := by
  have h := congrArg (fun l => (allB (l.map LM.lst)).length) (List.take_append_drop i ls)
  simp only [List.map_append, allB_append, List.length_append] at h
  omega
theorem range_below {w w' : World} {b o : Nat} {cs : List Value} (h : w.rangeAt b o cs) (hb : Below w.heap.size w w') : w'.rangeAt b o cs := fun j v hv => kp_cell hb (h j v hv)
theorem right_at {ls : List LM} {z : LM} {i : Nat} (h : ls[i]? = some z) (hr : rightL z.lst = false) : ¬ (ls.map LM.lst).all rightL = true := fun h2 => by
  rw [List.all_eq_true] at h2
  rw [h2 z.lst (List.mem_map_of_mem (List.mem_of_getElem? h))] at hr
  cases hr
set_option maxHeartbeats 8000000 in
theorem lwrite_any (A : Option Addr) (n c : Nat) (ls : List LM) (w : World) (hL : ListsZ w A n ls) (hc : n ≤ c) (hcm : c ≤ 9223372036854775807) (hn : n ≤ 100000) (hm : ∀ z ∈ ls, z.n ≤ 2000000) (hT : Sizes w) :
    Calls Tryd.prog 19 #[.slice A n c] w (WritePost w (ls.map LM.lst)) := by
  have HL := Lib.hid hL
  have HT := Lib.hid hT
  have HM := Lib.hid hm
  have hl := Lib.hid hL.len
  clear hL hT hm
  go_enter Tryd.func19, Tryd.ntmps19
  go_wp2
  go_loopw [11] (fun v wl => ∃ (i : Nat), v = .int .i64 (i : Int) ∧ i ≤ n ∧ Below w.heap.size w wl ∧ Hid (∀ j z, j < i → ls[j]? = some z → rightL z.lst = true)) (fun v _ => (n - (intOf v).toNat))
  case atStart => exact ⟨0, rfl, Nat.zero_le _, Below.refl _ _, fun j z hj => absurd hj (by omega)⟩
  case round =>
    obtain ⟨i, rfl, hi, hb, hz⟩ := hrel
    rcases Nat.lt_or_ge i n with hlt | hge
    · have l1 : decide ((i : Int) < (n : Int)) = true := decide_eq_true (by omega)
      have l2 : decide (i < n) = true := decide_eq_true hlt
      obtain ⟨z, b, off, hg, hA, hbl, hr, zs, hz1⟩ := (HL.out.below hb).at_ hlt
      subst hA
      have r0 : wr.cell? ⟨b, off + i * 2, none⟩ = some (.int .u8 (z.k.toNat : Int)) := hr 0 _ rfl
      have r1 : wr.cell? ⟨b, off + i * 2 + 1, none⟩ = some (.slice z.a z.n z.c) := hr 1 _ rfl
      have hzn := HM.out z (List.mem_of_getElem? hg)
      have hzl := hz1.e
      have C := Lib.hid (fun W (h : Below wr.heap.size wr W) => lright_any z.k z.a z.n z.c zs W (hz1.i.below h) hz1.c hz1.m (by omega) ((HT.out.below' hb).below' h))
      obtain ⟨v, hv⟩ : ∃ v, rightL (z.k, zs.map IM.itm) = v := ⟨_, rfl⟩
      rw [hv] at C
      rw [hzl] at hv
      have K := Lib.hid (And.intro hb (And.intro hz (And.intro hg (And.intro hv hb.size))))
      clear hb hz hg hv hr hz1 hzl hbl
      go_wp2_with fail
      refine (C.out _ (kp_alloc (Below.refl _ _) _)).mono ?_
      clear C
      rintro e w3 ⟨rfl, hb3⟩
      have hb4 := kp_call K.out.1 ((kp_alloc (Below.refl wr.heap.size wr |> fun h => h) _).trans (hb3.mono (by simp)))
      have HB4 := Lib.hid hb4
      clear hb3 hb4 r0 r1
      cases v with
      | false =>
        go_wp2
        go_ret2
        refine ⟨?_, HB4.out⟩
        rw [if_neg (right_at K.out.2.2.1 K.out.2.2.2.1)]
        rfl
      | true =>
        have l3 : IntKind.i64.wrap ((i : Int) + 1) = ((i + 1 : Nat) : Int) := IntWalk.i64_in _ (by omega)
        go_wp2
        go_roundw
        case rel =>
          refine ⟨i + 1, rfl, hlt, HB4.out, fun j y hj hy => ?_⟩
          rcases Nat.lt_or_ge j i with h | h
          · exact K.out.2.1 j y h hy
          · obtain rfl : j = i := by omega
            rw [K.out.2.2.1] at hy
            injection hy with hy
            subst hy
            exact K.out.2.2.2.1
        case measure => simp [intOf]; omega
    · obtain rfl : n = i := by omega
      have l1 : decide ((n : Int) < (n : Int)) = false := decide_eq_false (by omega)
      have l2 : decide (n < n) = false := decide_eq_false (by omega)
      have HRT : Hid ((ls.map LM.lst).all rightL = true ∧ ∀ (j : Nat) (z : LM), ls[j]? = some z → rightL z.lst = true) := by
        have h1 : ∀ (j : Nat) (z : LM), ls[j]? = some z → rightL z.lst = true := fun j z h => hz j z (by rw [← hl.out]; exact (List.getElem?_eq_some_iff.1 h).1) h
        refine ⟨List.all_eq_true.2 fun x hx => ?_, h1⟩
        obtain ⟨z, hz, rfl⟩ := List.mem_map.1 hx
        obtain ⟨j, hj⟩ := List.getElem?_of_mem hz
        exact h1 j z hj
      have HB := Lib.hid hb
      clear hz hb hge hi
      go_wp2
      go_loopw [6, 21] (fun v u wl => ∃ (i : Nat) (A' : Option Addr) (n' c' : Nat), v = .slice A' n' c' ∧ u = .int .i64 (i : Int) ∧ i ≤ n ∧ n' ≤ 65536 ∧ Hid (OwnB wl w.heap.size A' n' c' (allB ((ls.take i).map LM.lst)) ∧ Below w.heap.size w wl)) (fun _ u _ => (n - (intOf u).toNat))
      case atStart => exact ⟨0, none, 0, 0, rfl, rfl, Nat.zero_le _, by omega, OwnB.nil _ _, HB.out⟩
      case round =>
        obtain ⟨i, A', n', c', rfl, rfl, hi, hn', hS⟩ := hrel
        rcases Nat.lt_or_ge i n with hlt | hge
        · have l3 : decide ((i : Int) < (n : Int)) = true := decide_eq_true (by omega)
          have l4 : decide (i < n) = true := decide_eq_true hlt
          obtain ⟨z, b, off, hg, hA, hbl, hr, zs, hz1⟩ := HL.out.at_ hlt
          subst hA
          have hrr := range_below hr hS.2
          have r0 : wr.cell? ⟨b, off + i * 2, none⟩ = some (.int .u8 (z.k.toNat : Int)) := hrr 0 _ rfl
          have r1 : wr.cell? ⟨b, off + i * 2 + 1, none⟩ = some (.slice z.a z.n z.c) := hrr 1 _ rfl
          have hzn := HM.out z (List.mem_of_getElem? hg)
          have hrt := HRT.out.2 i z hg
          have C := Lib.hid (fun W (h : Below w.heap.size w W) (ho : OwnB W w.heap.size A' n' c' (allB ((ls.take i).map LM.lst))) => putList_any w A' n' c' _ z.k z.a z.n z.c zs W h ho (hz1.i.p W) (by rw [hz1.e]; exact hrt) hz1.c hz1.m hzn (by omega) HT.out)
          rw [hz1.e, show (z.k, z.is) = z.lst from rfl] at C
          have K := Lib.hid (And.intro hS hg)
          clear hg hr hrr hz1 hbl hzn hrt hS
          go_wp2_with fail
          refine (C.out _ (kp_alloc K.out.1.2 _) (K.out.1.1.alloc _)).mono ?_
          clear C
          rintro e w3 ⟨A3, n3, c3, rfl, ho3, hb3, -⟩
          rw [← allB_take ls i z K.out.2] at ho3
          have hl3 := ho3.len
          have hle := allB_take_le ls (i + 1)
          clear r0 r1
          have K3 := Lib.hid (And.intro ho3 hb3)
          clear ho3 hb3
          by_cases hbig : 65536 < n3
          · have g1 : decide ((n3 : Int) > (65536 : Int)) = true := decide_eq_true (by omega)
            have g2 : decide ((65536 : Int) < (n3 : Int)) = true := decide_eq_true (by omega)
            have g3 : decide (65536 < n3) = true := decide_eq_true hbig
            have HBIG : Hid (65536 < (allB (ls.map LM.lst)).length) := by unfold Hid; omega
            clear hbig hl3 hle
            go_wp2
            go_ret2
            refine ⟨?_, K3.out.2⟩
            rw [if_pos HRT.out.1, if_pos HBIG.out]
            rfl
          · have g1 : decide ((n3 : Int) > (65536 : Int)) = false := decide_eq_false (by omega)
            have g2 : decide ((65536 : Int) < (n3 : Int)) = false := decide_eq_false (by omega)
            have g3 : decide (65536 < n3) = false := decide_eq_false hbig
            clear hl3 hle
            have l5 : IntKind.i64.wrap ((i : Int) + 1) = ((i + 1 : Nat) : Int) := IntWalk.i64_in _ (by omega)
            go_wp2
            go_roundw
            case rel => exact ⟨i + 1, A3, n3, c3, rfl, rfl, hlt, by omega, K3.out.1, K3.out.2⟩
            case measure => simp [intOf]; omega
        · obtain rfl : n = i := by omega
          have K := Lib.hid hS
          clear hS
          go_wp2
          go_ret2
          refine ⟨?_, K.out.2⟩
          have h1 := K.out.1
          rw [List.take_of_length_le (by rw [hl.out]; exact Nat.le_refl _)] at h1
          rw [if_pos HRT.out.1, if_neg (by rw [h1.len]; omega)]
          exact ⟨A', n', c', rfl, h1⟩
end Go.Proofs.YtfampefflkkckaaDoor
namespace Go.Proofs.YtfampefflkkckaaDoor
open Go.RowKit Go
set_option linter.unusedVariables false
set_option linter.unusedSimpArgs false
set_option maxRecDepth 100000
theorem bequal_any (A1 A2 : Option Addr) (n1 n2 c1 c2 : Nat) (xs ys : List UInt8) (w : World) (h1 : RB w A1 n1 xs) (h2 : RB w A2 n2 ys) :
    Calls Tryd.prog 27 #[.slice A1 n1 c1, .slice A2 n2 c2] w fun e w' => e = .returned (.bool (xs == ys)) ∧ w = w' := by
  have S1 : (convert 22 9 (.slice A1 n1 c1)).run Tryd.prog w = .ok (.string (strOf xs)) w := by
    have h9 := run_strOf w w.heap.size A1 xs c1 h1.2
    rw [h1.1] at h9
    exact h9
  have S2 : (convert 22 9 (.slice A2 n2 c2)).run Tryd.prog w = .ok (.string (strOf ys)) w := by
    have h9 := run_strOf w w.heap.size A2 ys c2 h2.2
    rw [h2.1] at h9
    exact h9
  have e1 := strOf_toList xs
  have e2 := strOf_toList ys
  by_cases he : xs = ys
  · subst he
    generalize strOf xs = sx at *
    rw [show (xs == xs) = true by simp]
    clear h1 h2 e1 e2
    go_enter Tryd.func27, Tryd.ntmps27
    go_wp2
    go_ret
    exact ⟨by simp, rfl⟩
  · have hne : ¬ (strOf xs).toList = (strOf ys).toList := by rw [e1, e2]; exact he
    have hbe : (xs == ys) = false := beq_eq_false_iff_ne.2 he
    rw [hbe]
    clear h1 h2 e1 e2 he hbe
    generalize strOf xs = sx at *
    generalize strOf ys = sy at *
    have hne2 : (sx.toList == sy.toList) = false := beq_eq_false_iff_ne.2 hne
    go_enter Tryd.func27, Tryd.ntmps27
    go_wp2
    go_ret
    exact ⟨by simp, rfl⟩

def hasI (kd : UInt8) (d : List UInt8) (k : UInt8) (y : Itm) : Bool := k == kd && (toldL kd y.2 == d)
theorem hasQ_no (l : List Lst) (kd : UInt8) (d : List UInt8) (h : ∀ x ∈ l, ∀ y ∈ x.2, hasI kd d x.1 y = false) : hasQ l kd d = false := by
  refine Bool.eq_false_iff.2 fun h2 => ?_
  obtain ⟨x, hx, h3⟩ := List.any_eq_true.1 h2
  obtain ⟨y, hy, h4⟩ := List.any_eq_true.1 h3
  have := h x hx y hy
  unfold hasI at this
  rw [this] at h4; cases h4
theorem hasQ_yes (l : List Lst) (kd : UInt8) (d : List UInt8) (x : Lst) (hx : x ∈ l) (y : Itm) (hy : y ∈ x.2) (h : hasI kd d x.1 y = true) : hasQ l kd d = true :=
  List.any_eq_true.2 ⟨x, hx, List.any_eq_true.2 ⟨y, hy, h⟩⟩
theorem lm_item {w : World} {z : LM} {zs : List IM} (h : LmR w z zs) {i : Nat} {y : IM} (hy : zs[i]? = some y) : y.itm ∈ z.lst.2 := by
  show y.itm ∈ z.is
  rw [← h.e]
  exact List.mem_map_of_mem (List.mem_of_getElem? hy)
theorem lm_each {w : World} {z : LM} {zs : List IM} (h : LmR w z zs) {P : Itm → Prop} (hp : ∀ j y, j < z.n → zs[j]? = some y → P y.itm) : ∀ y ∈ z.lst.2, P y := fun y hy => by
  have hy : y ∈ z.is := hy
  rw [← h.e] at hy
  obtain ⟨v, hv, rfl⟩ := List.mem_map.1 hy
  obtain ⟨j, hj⟩ := List.getElem?_of_mem hv
  exact hp j v (by rw [← h.i.len]; exact (List.getElem?_eq_some_iff.1 hj).1) hj
theorem ls_each {w : World} {A : Option Addr} {n : Nat} {ls : List LM} (h : ListsZ w A n ls) {P : Lst → Prop} (hp : ∀ j z, j < n → ls[j]? = some z → P z.lst) : ∀ x ∈ ls.map LM.lst, P x := fun x hx => by
  obtain ⟨z, hz, rfl⟩ := List.mem_map.1 hx
  obtain ⟨j, hj⟩ := List.getElem?_of_mem hz
  exact hp j z (by rw [← h.len]; exact (List.getElem?_eq_some_iff.1 hj).1) hj
theorem told3 (d : List UInt8) (n : Nat) (h : d.length = n) : d.take 32 = d.take (min 32 n) := by
  rcases Nat.le_total 32 n with h1 | h1
  · rw [Nat.min_eq_left h1]
  · rw [Nat.min_eq_right h1, List.take_of_length_le (by omega), List.take_of_length_le (by omega)]
theorem rb_take3 {w : World} {A : Option Addr} {n : Nat} {d : List UInt8} (h : RB w A n d) (m : Nat) (hm : m ≤ n) : RB w A m (d.take m) := ⟨by rw [List.length_take, h.1]; omega, h.2.take_ m⟩
set_option maxHeartbeats 8000000 in
theorem has_any (A : Option Addr) (n c : Nat) (ls : List LM) (kd : UInt8) (D : Option Addr) (dn dc : Nat) (da : List UInt8) (w : World) (hL : ListsZ w A n ls) (hc : n ≤ c) (hcm : c ≤ 9223372036854775807) (hn : n ≤ 100000) (hm : ∀ z ∈ ls, z.n ≤ 4000000000000) (hD : RB w D dn da) (hm2 : ∀ z ∈ ls, ∀ y ∈ z.is, y.2.length ≤ 1000000000) :
    Calls Tryd.prog 14 #[.slice A n c, .int .u8 (kd.toNat : Int), .slice D dn dc] w fun e w' => e = .returned (.bool (hasQ (ls.map LM.lst) kd da)) ∧ Below w.heap.size w w' := by
  have HL := Lib.hid hL
  have HD := Lib.hid hD
  have HM := Lib.hid (And.intro hm hm2)
  clear hL hD hm hm2
  go_enter Tryd.func14, Tryd.ntmps14
  go_wp2
  go_loopw [14] (fun v wl => ∃ (i : Nat), v = .int .i64 (i : Int) ∧ i ≤ n ∧ Below w.heap.size w wl ∧ Hid (∀ j z, j < i → ls[j]? = some z → ∀ y ∈ z.lst.2, hasI kd da z.lst.1 y = false)) (fun v _ => (n - (intOf v).toNat))
  case atStart => exact ⟨0, rfl, Nat.zero_le _, Below.refl _ _, fun j z hj => absurd hj (by omega)⟩
  case round =>
    obtain ⟨i, rfl, hi, hb, hz⟩ := hrel
    rcases Nat.lt_or_ge i n with hlt | hge
    · have l1 : decide ((i : Int) < (n : Int)) = true := decide_eq_true (by omega)
      have l2 : decide (i < n) = true := decide_eq_true hlt
      obtain ⟨z, b, off, hg, hA, hbl, hr, zs, hz1⟩ := (HL.out.below hb).at_ hlt
      subst hA
      have r0 : wr.cell? ⟨b, off + i * 2, none⟩ = some (.int .u8 (z.k.toNat : Int)) := hr 0 _ rfl
      have r1 : wr.cell? ⟨b, off + i * 2 + 1, none⟩ = some (.slice z.a z.n z.c) := hr 1 _ rfl
      obtain ⟨za, hza⟩ : ∃ za, z.a = za := ⟨_, rfl⟩
      rw [hza] at r1
      have hzn := HM.out.1 z (List.mem_of_getElem? hg)
      have K := Lib.hid (And.intro hb (And.intro hz (And.intro hg (And.intro hz1 hb.size))))
      have hzc := Lib.hid (And.intro hz1.c hz1.m)
      clear hb hz hg hr hz1 hbl hi
      go_wp2
      refine wp_nm fun W1 hW1 => ?_
      have kb : W1.heap[wr.heap.size]? = some (.cells #[.int .u8 (z.k.toNat : Int), .slice za z.n z.c] 41) := by rw [← hW1]; exact has_new wr _
      have hb1 : Below wr.heap.size wr W1 := by rw [← hW1]; exact kp_alloc (Below.refl _ _) _
      have H1 := Lib.hid (And.intro kb (And.intro (kp_call K.out.1 hb1) (And.intro (K.out.2.2.2.1.below hb1) hb1.size)))
      clear hW1 kb hb1 r0 r1
      rename_i ihJ
      go_loopw [21] (fun v wl => ∃ (j : Nat), v = .int .i64 (j : Int) ∧ j ≤ z.n ∧ Below W1.heap.size W1 wl ∧ Hid (∀ q y, q < j → zs[q]? = some y → hasI kd da z.k y.itm = false)) (fun v _ => (z.n - (intOf v).toNat))
      case atStart => exact ⟨0, rfl, Nat.zero_le _, Below.refl _ _, fun j z hj => absurd hj (by omega)⟩
      case round =>
        obtain ⟨j, rfl, hj, hb, hq⟩ := hrel
        rcases Nat.lt_or_ge j z.n with hlt2 | hge2
        · have l3 : decide ((j : Int) < (z.n : Int)) = true := decide_eq_true (by omega)
          have l4 : decide (j < z.n) = true := decide_eq_true hlt2
          obtain ⟨y, b2, off2, hg2, hA2, hbl2, hr2, hy1⟩ := (H1.out.2.2.1.i.below hb).at_ hlt2
          have KB := Lib.hid (has_below H1.out.1 hb)
          have K2 := Lib.hid (And.intro hb (And.intro hq (And.intro hr2 (And.intro hy1 (And.intro hg2 hb.size)))))
          rw [hza] at hA2
          subst hA2
          have hyl : y.n ≤ 1000000000 := by
            have h1 := HM.out.2 z (List.mem_of_getElem? K.out.2.2.1) y.itm (lm_item K.out.2.2.2.1 hg2)
            rw [← hy1.r.1]; exact h1
          clear hb hq hr2 hy1 hg2 hbl2 hj
          go_upto_region 7 with (first
            | (with_reducible refine wpList_load_mid rfl _ _ rfl b2 (off2 + j * 17) rfl y.cells _ K2.out.2.2.1 Tryd.underlying49 rfl (item_info3 y K2.out.2.2.2.1.o) ?_)
            | (refine wpList_store_row rfl _ _ _ rfl wr.heap.size (itmC y.o y.a y.n y.c) rfl rfl _ _ (has_new wr _) (item_info2 K2.out.2.2.2.1.o _ _ _) (by rw [itmC_size K2.out.2.2.2.1.o]; rfl) (itmC_one _ _ _ _) ?_))
          refine wp_nm fun W2 hW2 => ?_
          go_simp
          have k2 : W2.heap[wr.heap.size]? = some (.cells (itmC y.o y.a y.n y.c) 49) := by rw [← hW2]; exact setRow_heap _ _ _ _ _ _ (has_new wr _)
          have hb2 : Below wr.heap.size wr W2 := by rw [← hW2]; exact below_setRow (kp_alloc (Below.refl _ _) _) (Nat.le_refl _) _
          have f2 : W2.cell? ⟨wr.heap.size, 16, none⟩ = some (.slice y.a y.n y.c) := item_cell k2 K2.out.2.2.2.1.o
          obtain ⟨f0, f1⟩ := cells_2 (has_below KB.out hb2)
          have H2 := Lib.hid (And.intro (kp_call K2.out.1 hb2) (And.intro (K2.out.2.2.2.1.r.below hb2) (And.intro (HD.out.below (kp_call (kp_call H1.out.2.1 K2.out.1) hb2)) (And.intro K2.out.2.2.2.1.c K2.out.2.2.2.1.m))))
          have HLST := Lib.hid (kp_call (kp_call H1.out.2.1 K2.out.1) hb2)
          clear hW2 k2 hb2 KB
          have l5 : IntKind.i64.wrap ((j : Int) + 1) = ((j + 1 : Nat) : Int) := IntWalk.i64_in _ (by omega)
          have NEXT : Hid (hasI kd da z.k y.itm = false → ∀ q v, q < j + 1 → zs[q]? = some v → hasI kd da z.k v.itm = false) := fun h q v hq hv => by
            rcases Nat.lt_or_ge q j with h1 | h1
            · exact K2.out.2.1 q v h1 hv
            · obtain rfl : q = j := by omega
              rw [K2.out.2.2.2.2.1] at hv
              injection hv with hv
              subst hv
              exact h
          have YES : Hid (hasI kd da z.k y.itm = true → hasQ (ls.map LM.lst) kd da = true) := fun h =>
            hasQ_yes _ _ _ z.lst (List.mem_map_of_mem (List.mem_of_getElem? K.out.2.2.1)) y.itm (lm_item K.out.2.2.2.1 K2.out.2.2.2.2.1) h
          by_cases hk : z.k = kd
          · obtain ⟨v, hv⟩ : ∃ v, (toldL kd y.d == da) = v := ⟨_, rfl⟩
            have HV : Hid (hasI kd da z.k y.itm = v) := by unfold Hid hasI; rw [hk, show (kd == kd) = true by simp, Bool.true_and]; exact hv
            have e1 : ((z.k.toNat : Int) == (kd.toNat : Int)) = true := by rw [hk]; simp
            have e2 : (z.k.toNat == kd.toNat) = true := by rw [hk]; simp
            clear hk
            by_cases h3 : kd = 3
            · by_cases h32 : y.n < 32
              · have m1 : ¬ (32 : Int) ≤ (y.n : Int) := by omega
                have m2 : ¬ 32 ≤ y.n := by omega
                have m3 : (y.n : Int) ≤ (y.c : Int) := by have := H2.out.2.2.2.1; omega
                have m4 : y.n ≤ y.c := by have := H2.out.2.2.2.1; omega
                have C := Lib.hid (bequal_any y.a D y.n dn y.c dc (y.d.take y.n) da W2 (rb_take3 H2.out.2.1 y.n (by omega)) H2.out.2.2.1)
                rw [show (y.d.take y.n == da) = v by rw [← hv]; unfold toldL; rw [if_pos h3, told3 _ _ H2.out.2.1.1, Nat.min_eq_right (by omega)]] at C
                have g1 : ((kd.toNat : Int) == 3) = true := by rw [h3]; rfl
                have g2 : (kd.toNat == 3) = true := by rw [h3]; rfl
                clear h3 h32 hv
                go_wp2_with fail
                refine C.out.mono ?_
                clear C
                rintro e w5 ⟨rfl, rfl⟩
                cases v with
                | true =>
                  go_wp2
                  go_ret
                  exact ⟨by rw [YES.out HV.out]; rfl, HLST.out⟩
                | false =>
                  go_wp2
                  go_roundw
                  case rel => exact ⟨j + 1, rfl, hlt2, H2.out.1, NEXT.out HV.out⟩
                  case measure => simp [intOf]; omega
              · have m1 : (32 : Int) ≤ (y.n : Int) := by omega
                have m2 : 32 ≤ y.n := by omega
                have m3 : (32 : Int) ≤ (y.c : Int) := by have := H2.out.2.2.2.1; omega
                have m4 : 32 ≤ y.c := by have := H2.out.2.2.2.1; omega
                have C := Lib.hid (bequal_any y.a D 32 dn y.c dc (y.d.take 32) da W2 (rb_take3 H2.out.2.1 32 (by omega)) H2.out.2.2.1)
                rw [show (y.d.take 32 == da) = v by rw [← hv]; unfold toldL; rw [if_pos h3, told3 _ _ H2.out.2.1.1, Nat.min_eq_left (by omega)]] at C
                have g1 : ((kd.toNat : Int) == 3) = true := by rw [h3]; rfl
                have g2 : (kd.toNat == 3) = true := by rw [h3]; rfl
                clear h3 h32 hv
                go_wp2_with fail
                refine C.out.mono ?_
                clear C
                rintro e w5 ⟨rfl, rfl⟩
                cases v with
                | true =>
                  go_wp2
                  go_ret
                  exact ⟨by rw [YES.out HV.out]; rfl, HLST.out⟩
                | false =>
                  go_wp2
                  go_roundw
                  case rel => exact ⟨j + 1, rfl, hlt2, H2.out.1, NEXT.out HV.out⟩
                  case measure => simp [intOf]; omega
            · have C := Lib.hid (bequal_any y.a D y.n dn y.c dc y.d da W2 H2.out.2.1 H2.out.2.2.1)
              rw [show (y.d == da) = v by rw [← hv]; unfold toldL; rw [if_neg h3]] at C
              have g1 : ((kd.toNat : Int) == 3) = false := beq_eq_false_iff_ne.2 (fun h => h3 (UInt8.toNat_inj.1 (by show kd.toNat = 3; omega)))
              have g2 : (kd.toNat == 3) = false := beq_eq_false_iff_ne.2 (fun h => h3 (UInt8.toNat_inj.1 h))
              have g3 : kd.toNat ≠ 3 := fun h => h3 (UInt8.toNat_inj.1 h)
              clear h3 hv
              go_wp2_with fail
              refine C.out.mono ?_
              clear C
              rintro e w5 ⟨rfl, rfl⟩
              cases v with
              | true =>
                go_wp2
                go_ret
                exact ⟨by rw [YES.out HV.out]; rfl, HLST.out⟩
              | false =>
                go_wp2
                go_roundw
                case rel => exact ⟨j + 1, rfl, hlt2, H2.out.1, NEXT.out HV.out⟩
                case measure => simp [intOf]; omega
          · have HV : Hid (hasI kd da z.k y.itm = false) := by unfold Hid hasI; rw [show (z.k == kd) = false from beq_eq_false_iff_ne.2 hk, Bool.false_and]
            have e3 : z.k.toNat ≠ kd.toNat := fun h => hk (UInt8.toNat_inj.1 h)
            have e1 : ((z.k.toNat : Int) == (kd.toNat : Int)) = false := beq_eq_false_iff_ne.2 (by omega)
            have e2 : (z.k.toNat == kd.toNat) = false := beq_eq_false_iff_ne.2 e3
            clear hk
            by_cases h3 : kd = 3
            · by_cases h32 : y.n < 32
              · have m1 : ¬ (32 : Int) ≤ (y.n : Int) := by omega
                have m2 : ¬ 32 ≤ y.n := by omega
                have m3 : (y.n : Int) ≤ (y.c : Int) := by have := H2.out.2.2.2.1; omega
                have m4 : y.n ≤ y.c := by have := H2.out.2.2.2.1; omega
                have g1 : ((kd.toNat : Int) == 3) = true := by rw [h3]; rfl
                have g2 : (kd.toNat == 3) = true := by rw [h3]; rfl
                clear h3 h32
                go_wp2
                go_roundw
                case rel => exact ⟨j + 1, rfl, hlt2, H2.out.1, NEXT.out HV.out⟩
                case measure => simp [intOf]; omega
              · have m1 : (32 : Int) ≤ (y.n : Int) := by omega
                have m2 : 32 ≤ y.n := by omega
                have m3 : (32 : Int) ≤ (y.c : Int) := by have := H2.out.2.2.2.1; omega
                have m4 : 32 ≤ y.c := by have := H2.out.2.2.2.1; omega
                have g1 : ((kd.toNat : Int) == 3) = true := by rw [h3]; rfl
                have g2 : (kd.toNat == 3) = true := by rw [h3]; rfl
                clear h3 h32
                go_wp2
                go_roundw
                case rel => exact ⟨j + 1, rfl, hlt2, H2.out.1, NEXT.out HV.out⟩
                case measure => simp [intOf]; omega
            · have g1 : ((kd.toNat : Int) == 3) = false := beq_eq_false_iff_ne.2 (fun h => h3 (UInt8.toNat_inj.1 (by show kd.toNat = 3; omega)))
              have g2 : (kd.toNat == 3) = false := beq_eq_false_iff_ne.2 (fun h => h3 (UInt8.toNat_inj.1 h))
              have g3 : kd.toNat ≠ 3 := fun h => h3 (UInt8.toNat_inj.1 h)
              clear h3
              go_wp2
              go_roundw
              case rel => exact ⟨j + 1, rfl, hlt2, H2.out.1, NEXT.out HV.out⟩
              case measure => simp [intOf]; omega
        · have hjm : j = z.n := by omega
          have l3 : decide ((j : Int) < (z.n : Int)) = false := decide_eq_false (by omega)
          have l4 : decide (j < z.n) = false := decide_eq_false (by omega)
          have l5 : IntKind.i64.wrap ((i : Int) + 1) = ((i + 1 : Nat) : Int) := IntWalk.i64_in _ (by omega)
          have HB := Lib.hid (kp_call H1.out.2.1 hb)
          have NEXT : Hid (∀ q v, q < i + 1 → ls[q]? = some v → ∀ y ∈ v.lst.2, hasI kd da v.lst.1 y = false) := fun q v hq' hv => by
            rcases Nat.lt_or_ge q i with h1 | h1
            · exact K.out.2.1 q v h1 hv
            · obtain rfl : q = i := by omega
              rw [K.out.2.2.1] at hv
              injection hv with hv
              subst hv
              exact lm_each H1.out.2.2.1 (fun j' y hj' hy => hq j' y (by omega) hy)
          clear hb hq hge2
          go_wp2
          go_roundw
          case rel => exact ⟨i + 1, rfl, hlt, HB.out, NEXT.out⟩
          case measure => simp [intOf]; omega
    · obtain rfl : n = i := by omega
      have l1 : decide ((n : Int) < (n : Int)) = false := decide_eq_false (by omega)
      have l2 : decide (n < n) = false := decide_eq_false (by omega)
      have K := Lib.hid (And.intro hb hz)
      clear hb hz hge hi
      go_wp2
      go_ret
      exact ⟨by rw [hasQ_no _ _ _ (ls_each HL.out (P := fun x => ∀ y ∈ x.2, hasI kd da x.1 y = false) (fun j z hj h => K.out.2 j z hj h))]; rfl, K.out.1⟩
end Go.Proofs.YtfampefflkkckaaDoor
