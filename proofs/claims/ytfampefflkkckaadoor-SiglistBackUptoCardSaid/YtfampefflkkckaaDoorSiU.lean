/-
  siglist: lists that came in (made by genSi2.py).
-/
import Derived.Test.YtfampefflkkckaaDoorRows
import Derived.Test.YtfampefflkkckaaDoorSiS
import Derived.Test.YtfampefflkkckaaDoorBytes
import Derived.Deep.Matrix
import Derived.Lib.SmallJoins
import Derived.OpenShut
import Derived.Deep.Slices
import Derived.Deep.MidRow
namespace Go.Proofs.YtfampefflkkckaaDoor
open Go.RowKit Go
set_option linter.unusedVariables false
set_option linter.unusedSimpArgs false
set_option maxRecDepth 100000

theorem wAll_mem {H : Type} {P : Program} {e : TypeId} : ∀ {l : List (DataW H)} {d : DataW H}, d ∈ l → ∀ z ∈ d.weights P e, z ∈ DataW.weightsAll P e l
  | x :: l, d, h, z, hz => by
    simp only [DataW.weightsAll, List.mem_append]
    rcases List.mem_cons.1 h with h | h
    · subst h; exact .inl hz
    · exact .inr (wAll_mem h z hz)
theorem bulk_all {H : Type} {d : DataW H} : ∀ {l : List (DataW H)}, d ∈ l → Rows.uptoBulk d ≤ Rows.uptoBulkAll l
  | [], h => by cases h
  | x :: r, h => by
    simp only [Rows.uptoBulkAll]
    rcases List.mem_cons.1 h with e | e
    · subst e; omega
    · have := bulk_all e; omega
theorem bulk_len {H : Type} : ∀ l : List (DataW H), l.length ≤ Rows.uptoBulkAll l
  | [] => by simp [Rows.uptoBulkAll]
  | x :: r => by
    have h1 : 1 ≤ Rows.uptoBulk x := by
      cases x with
      | lit l => cases l <;> simp [Rows.uptoBulk]
      | nil => simp [Rows.uptoBulk]
      | ptr d => simp [Rows.uptoBulk]
      | slice elems spare => simp [Rows.uptoBulk]
      | agg parts => simp [Rows.uptoBulk]
      | iface t d => simp [Rows.uptoBulk]
      | map entries => simp [Rows.uptoBulk]
      | held h => simp [Rows.uptoBulk]
    have h2 := bulk_len r
    simp only [Rows.uptoBulkAll, List.length_cons]
    omega
section
open Go.ChangeShapes Go.WideShapes Go.ChangeAt Go.Deep Go.Joins
theorem bytes_of_vals : ∀ l : List Value, (∀ i, i < l.length → ∃ z : Int, l[i]? = some (.int .u8 z) ∧ (Lit.int .u8 z).wf = true) → ∃ gb : List UInt8, l = gb.map bv
  | [], _ => ⟨[], rfl⟩
  | v :: l, h => by
    obtain ⟨z, h1, h2⟩ := h 0 (by simp)
    obtain ⟨gb, hg⟩ := bytes_of_vals l (fun i hi => by
      have := h (i + 1) (by simpa using hi)
      simpa using this)
    have hv : v = .int .u8 z := by simpa using h1
    refine ⟨UInt8.ofNat z.toNat :: gb, ?_⟩
    rw [List.map_cons, hv, hg]
    congr 1
    show Value.int .u8 z = .int .u8 ((UInt8.ofNat z.toNat).toNat : Int)
    rw [byte_of_wf h2]
/-- A bound on what is read, handed down from a slice to its elements and from a struct to its fields. -/
structure Inh (H : Type) (F : TypeId → DataW H → Prop) (N : TypeId → Nat) : Prop where
  sl : ∀ {s e : TypeId} {el sp : List (DataW H)}, Tryd.prog.underlying s = some (.slice e) → F s (.slice el sp) → ∀ x ∈ el, F e x
  st : ∀ {t : TypeId} {fs : Array Field} {ps : List (DataW H)}, Tryd.prog.underlying t = some (.struct fs) → F t (.agg ps) → ∀ (i : Nat) (x : DataW H) (f : Field), ps[i]? = some x → fs[i]? = some f → F f.type x
  cnt : ∀ {s e : TypeId} {el sp : List (DataW H)}, Tryd.prog.underlying s = some (.slice e) → F s (.slice el sp) → el.length * Tryd.prog.bytesOf e ≤ N e
theorem each_mem {H : Type} {P : Program} : ∀ {ts : List TypeId} {ps : List (DataW H)} (i : Nat) (t : TypeId) (x : DataW H), ts[i]? = some t → ps[i]? = some x → ∀ z ∈ x.weights P t, z ∈ DataW.weightsEach P ts ps
  | t :: ts, p :: ps, 0, t', x, h1, h2, z, hz => by
    injection h1 with h1; injection h2 with h2
    subst h1; subst h2
    simp only [DataW.weightsEach, List.mem_append]
    exact .inl hz
  | t :: ts, p :: ps, i + 1, t', x, h1, h2, z, hz => by
    simp only [DataW.weightsEach, List.mem_append]
    exact .inr (each_mem i t' x h1 h2 z hz)
theorem inh_reach (H : Type) : Inh H (fun t d => ∀ z ∈ d.weights Tryd.prog t, z ≤ reachBytes) (fun _ => reachBytes) where
  sl := fun {s e el sp} hu h x hx z hz => h z (by
    simp only [DataW.weights, hu]
    exact List.mem_cons_of_mem _ (List.mem_append_left _ (wAll_mem hx z hz)))
  st := fun {t fs ps} hu h i x f hx hf z hz => h z (by
    simp only [DataW.weights, hu]
    exact each_mem i f.type x (by rw [List.getElem?_map, Array.getElem?_toList, hf]; rfl) hx z hz)
  cnt := fun {s e el sp} hu h => by
    have h1 := h ((el.length + sp.length) * Tryd.prog.bytesOf e) (by simp only [DataW.weights, hu]; exact List.mem_cons_self ..)
    exact Nat.le_trans (Nat.mul_le_mul_right _ (Nat.le_add_right _ _)) h1
theorem inh_bulk (H : Type) : Inh H (fun _ d => Rows.uptoBulk d ≤ 1048576) (fun e => 1048576 * Tryd.prog.bytesOf e) where
  sl := fun {s e el sp} hu h x hx => by
    simp only [Rows.uptoBulk] at h
    have := bulk_all hx
    omega
  st := fun {t fs ps} hu h i x f hx hf => by
    simp only [Rows.uptoBulk] at h
    have := bulk_all (List.mem_of_getElem? hx)
    omega
  cnt := fun {s e el sp} hu h => by
    simp only [Rows.uptoBulk] at h
    have := bulk_len el
    exact Nat.mul_le_mul_right _ (by omega)
section
variable {H : Type} {enc : TypeId × Value → H} {w : World} {F : TypeId → DataW H → Prop} {N : TypeId → Nat}
/-- A slice of any elements that came in. -/
theorem open_sliceG (I : Inh H F N) {s e : TypeId} {k : Nat} (hs : Tryd.prog.underlying s = some (.slice e)) (ce : Tryd.prog.cellsOf e = k) (hk : 0 < k) {E : Type} [Inhabited E] (cells : E → List Value) (R : E → Prop)
    (he : ∀ (fuel : Nat) (l : List Value) (x : DataW H × List MemPlace), DataW.trod enc Tryd.prog w 0 (fun _ => true) true fuel e l = some x → F e x.1 → ∃ o : E, l = cells o ∧ R o)
    {fuel : Nat} {A : Option Addr} {n c : Nat} {x : DataW H × List MemPlace} (hf : DataW.trod enc Tryd.prog w 0 (fun _ => true) true fuel s [.slice A n c] = some x) (hd : F s x.1) :
    n ≤ c ∧ c ≤ 9223372036854775807 ∧ n * Tryd.prog.bytesOf e ≤ N e ∧ ∃ os : List E, os.length = n ∧ ReadR w A (os.flatMap cells) ∧ (∀ o ∈ os, R o) := by
  rcases open_slice hs hf with ⟨hcs, _⟩ | ⟨a, len, cap, m, q, D, Pl, hcs, _, hl, hm, hmm, hxd, hx⟩
  · simp at hcs
    obtain ⟨rfl, rfl, rfl⟩ := hcs
    exact ⟨Nat.le_refl _, by omega, by rw [Nat.zero_mul]; exact Nat.zero_le _, [], rfl, ReadR.nil, fun o ho => by cases ho⟩
  · simp at hcs
    obtain ⟨rfl, rfl, rfl⟩ := hcs
    have hmc : m = c := by rw [hmm]; rfl
    subst hmc
    rw [ce] at hx
    rw [hxd] at hd
    have hcnt := I.cnt hs hd
    rw [List.length_map, List.length_range] at hcnt
    have hrow : ∀ r, r < n → ∃ o : E, (R o ∧ (cells o).length = k) ∧ ∀ (j : Nat) (u : Value), j < k → (cells o)[j]? = some u → w.cell? (a.add (r * k + j)) = some u := by
      intro r hr
      obtain ⟨cs', h1, h2⟩ := hx r (by omega)
      obtain ⟨_, hlen, hcell⟩ := World.cells?_some h1
      obtain ⟨o, ho, hR⟩ := he _ _ _ h2 (I.sl hs hd (D r) (List.mem_map.2 ⟨r, List.mem_range.2 hr, rfl⟩))
      refine ⟨o, ⟨hR, by rw [← ho]; exact hlen⟩, fun j u hj hu => ?_⟩
      rw [← ho] at hu
      have h3 := hcell j (by omega)
      rw [add_add, hu] at h3
      exact h3
    obtain ⟨os, hos⟩ := choose_lt hrow
    have hk1 : ∀ z ∈ (List.range n).map os, (cells z).length = k := fun z hz => by
      obtain ⟨r, hr, rfl⟩ := List.mem_map.1 hz
      exact (hos r (List.mem_range.1 hr)).1.2
    refine ⟨hl, by unfold maxLen at hm; omega, hcnt, (List.range n).map os, by simp, fun hne => ?_, fun o ho => by
      obtain ⟨r, hr, rfl⟩ := List.mem_map.1 ho
      exact (hos r (List.mem_range.1 hr)).1.1⟩
    have hflat := flat_len cells k _ hk1
    rw [List.length_map, List.length_range] at hflat
    have hn0 : 0 < n := by
      rcases Nat.eq_zero_or_pos n with h | h
      · exfalso
        rw [h, Nat.zero_mul] at hflat
        exact hne (by rw [h]; rfl)
      · exact h
    obtain ⟨b, off, spot⟩ := a
    have e0 : ∃ u, (cells (os 0))[0]? = some u := ⟨_, List.getElem?_eq_getElem (by rw [(hos 0 hn0).1.2]; exact hk)⟩
    obtain ⟨u0, hu0⟩ := e0
    have h0 := (hos 0 hn0).2 0 u0 hk hu0
    have hb : b < w.heap.size := by
      have := World.block_lt_of_cell? w _ h0
      simpa [Addr.add] using this
    have hsp : spot = none := by
      have h1 := World.cell?_spot h0
      simpa [Addr.add] using h1
    subst hsp
    refine ⟨b, off, rfl, hb, fun j u hu => ?_⟩
    have hj : j < n * k := by rw [← hflat]; exact (List.getElem?_eq_some_iff.1 hu).1
    have hr : j / k < n := (Nat.div_lt_iff_lt_mul hk).2 hj
    have hjm : j % k < k := Nat.mod_lt _ hk
    have hjd : j / k * k + j % k = j := by rw [Nat.mul_comm]; exact Nat.div_add_mod j k
    have hg : ((List.range n).map os)[j / k]? = some (os (j / k)) := by rw [List.getElem?_map, List.getElem?_range hr]; rfl
    have h1 := flat_nth cells k _ hk1 (j / k) (j % k) _ hg hjm
    rw [hjd] at h1
    have h2 := (hos (j / k) hr).2 (j % k) u hjm (by rw [← h1]; exact hu)
    rw [hjd, Addr.add_mid] at h2
    exact h2
theorem slice_shape {s e : TypeId} (hs : Tryd.prog.underlying s = some (.slice e)) {fuel : Nat} {v : Value} {x : DataW H × List MemPlace} (hf : DataW.trod enc Tryd.prog w 0 (fun _ => true) true fuel s [v] = some x) : ∃ A n c, v = .slice A n c := by
  rcases DataW.trod_slice hs hf with ⟨e, _⟩ | ⟨a, l, k, _, _, _, _, e, _⟩
  · injection e with e _; exact ⟨_, _, _, e⟩
  · injection e with e _; exact ⟨_, _, _, e⟩
theorem trod_guid {fuel : Nat} {l : List Value} {x : DataW H × List MemPlace} (hf : DataW.trod enc Tryd.prog w 0 (fun _ => true) true fuel 47 l = some x) : ∃ gb : List UInt8, gb.length = 16 ∧ l = gb.map bv := by
  obtain ⟨xs, m, _, _, hcl, hlen, hg⟩ := DataW.trod_array Tryd.underlying47 hf
  have c1 : Tryd.prog.cellsOf 5 = 1 := by kernel_rfl
  have hsz : l.length = 16 := hcl.trans (by kernel_rfl)
  obtain ⟨gb, hgb⟩ := bytes_of_vals l (fun i hi => by
    have hi16 : i < 16 := by omega
    have h1 := hg i hi16
    rw [c1, Nat.mul_one] at h1
    have hx : i < xs.length := by omega
    rw [List.getElem?_eq_getElem hx] at h1
    have hd : (l.drop i).take 1 = [l[i]] := by
      rw [List.drop_eq_getElem_cons hi]
      rfl
    rw [hd] at h1
    obtain ⟨z, e0, _, w0⟩ := DataW.trod_int Tryd.underlying5 h1
    injection e0 with e0 _
    exact ⟨z, by rw [List.getElem?_eq_getElem hi, e0], w0⟩)
  exact ⟨gb, by have := congrArg List.length hgb; simp at this; omega, hgb⟩
/-- What is told of an item that came in. -/
def ItemIn (w : World) (N1 : Nat) (z : IM) : Prop := ImR w z ∧ z.n ≤ N1
theorem trod_item (I : Inh H F N) {fuel : Nat} {l : List Value} {x : DataW H × List MemPlace} (hf : DataW.trod enc Tryd.prog w 0 (fun _ => true) true fuel 49 l = some x) (hd : F 49 x.1) : ∃ z : IM, l = z.cells ∧ ItemIn w (N 5) z := by
  obtain ⟨xs, n, _, hxe, hcl, hlen, hg⟩ := DataW.trod_struct Tryd.underlying49 hf
  have hsz : l.length = 17 := hcl.trans (by kernel_rfl)
  match xs, hlen with
  | [y0, y1], _ =>
    have cg : Tryd.prog.cellsOf 47 = 16 := by kernel_rfl
    have cb : Tryd.prog.cellsOf 22 = 1 := by kernel_rfl
    have g0 : DataW.trod enc Tryd.prog w 0 (fun _ => true) true n 47 (l.take 16) = some y0 := by simpa [cg] using hg 0 _ rfl
    have g1 : DataW.trod enc Tryd.prog w 0 (fun _ => true) true n 22 ((l.drop 16).take 1) = some y1 := by simpa [cb] using hg 1 _ rfl
    obtain ⟨gb, h16, hgb⟩ := trod_guid g0
    have hv : (l.drop 16).take 1 = [l[16]] := by
      rw [List.drop_eq_getElem_cons (by omega)]; rfl
    rw [hv] at g1
    obtain ⟨A, k, c, hs⟩ := slice_shape Tryd.underlying22 g1
    rw [hs] at g1
    obtain ⟨bs, B⟩ := open_bs Tryd.underlying22 Tryd.underlying5 (by kernel_rfl) (show DataW.trod enc Tryd.prog w 0 (fun _ => true) true n 22 (Value.slice A k c).cells.toList = some (y1.1, y1.2) by simpa [Value.cells] using g1)
    rw [hxe] at hd
    have hd1 := I.st Tryd.underlying49 hd 1 y1.1 _ rfl rfl
    have hN : k ≤ N 5 := by
      rcases open_slice Tryd.underlying22 g1 with ⟨hcs, _⟩ | ⟨a, len, cap, m, q, D, Pl, hcs, _, hl, hm, hmm, hxd, hx⟩
      · simp at hcs; omega
      · simp at hcs
        obtain ⟨_, rfl, rfl⟩ := hcs
        rw [hxd] at hd1
        have h9 := I.cnt Tryd.underlying22 hd1
        rw [List.length_map, List.length_range, show Tryd.prog.bytesOf 5 = 1 by kernel_rfl, Nat.mul_one] at h9
        exact h9
    have M := B.max
    unfold maxLen at M
    refine ⟨⟨gb, bs, A, k, c⟩, ?_, ⟨B.rb, h16, B.le, by omega⟩, hN⟩
    unfold IM.cells itmC
    rw [List.toList_toArray, ← hgb, ← hs]
    have h9 : l = l.take 16 ++ l.drop 16 := (List.take_append_drop 16 l).symm
    have h8 : l.drop 16 = [l[16]] := by
      rw [List.drop_eq_getElem_cons (by omega), List.drop_of_length_le (by omega)]
    rw [h8] at h9
    exact h9
/-- What is told of a list that came in. -/
def ListIn (w : World) (N1 N2 : Nat) (z : LM) : Prop := (∃ zs, LmR w z zs) ∧ z.n * 40 ≤ N2 ∧ ∀ y ∈ z.is, y.2.length ≤ N1
theorem trod_list (I : Inh H F N) {fuel : Nat} {l : List Value} {x : DataW H × List MemPlace} (hf : DataW.trod enc Tryd.prog w 0 (fun _ => true) true fuel 41 l = some x) (hd : F 41 x.1) : ∃ z : LM, l = z.cells ∧ ListIn w (N 5) (N 49) z := by
  obtain ⟨xs, n, _, hxe, hcl, hlen, hg⟩ := DataW.trod_struct Tryd.underlying41 hf
  have hsz : l.length = 2 := hcl.trans (by kernel_rfl)
  match l, hsz with
  | [c0, c1], _ =>
    match xs, hlen with
    | [y0, y1], _ =>
      have g0 : DataW.trod enc Tryd.prog w 0 (fun _ => true) true n 5 [c0] = some y0 := by simpa [show Tryd.prog.cellsOf 5 = 1 by kernel_rfl] using hg 0 _ rfl
      have g1 : DataW.trod enc Tryd.prog w 0 (fun _ => true) true n 39 [c1] = some y1 := by simpa [show Tryd.prog.cellsOf 39 = 1 by kernel_rfl] using hg 1 _ rfl
      obtain ⟨z0, e0, _, w0⟩ := DataW.trod_int Tryd.underlying5 g0
      injection e0 with e0 _
      obtain ⟨A, k, c, rfl⟩ := slice_shape Tryd.underlying39 g1
      rw [hxe] at hd
      have hd1 := I.st Tryd.underlying41 hd 1 y1.1 _ rfl rfl
      haveI : Inhabited IM := ⟨⟨[], [], none, 0, 0⟩⟩
      obtain ⟨h1, h2, h3, os, h4, h5, h6⟩ := open_sliceG I (k := 17) Tryd.underlying39 (by kernel_rfl) (by omega) IM.cells (ItemIn w (N 5)) (fun fuel l x h hd => trod_item I h hd) g1 hd1
      rw [show Tryd.prog.bytesOf 49 = 40 by kernel_rfl] at h3
      refine ⟨⟨UInt8.ofNat z0.toNat, os.map IM.itm, A, k, c⟩, ?_, ⟨os, ⟨⟨h4, h5, fun z hz => (h6 z hz).1⟩, rfl, h1, h2⟩⟩, h3, fun y hy => ?_⟩
      · unfold LM.cells
        rw [e0, byte_of_wf w0]
      · obtain ⟨z, hz, rfl⟩ := List.mem_map.1 hy
        have h7 := (h6 z hz)
        show z.d.length ≤ _
        rw [h7.1.r.1]
        exact h7.2
/-- What a walk is told of lists that came in. -/
structure IsLs (w : World) (A : Option Addr) (n c : Nat) (N1 N2 N3 : Nat) (ls : List LM) : Prop where
  z : ListsZ w A n ls
  le : n ≤ c
  max : c ≤ 9223372036854775807
  cnt : n * 32 ≤ N3
  items : ∀ z ∈ ls, z.n * 40 ≤ N2
  data : ∀ z ∈ ls, ∀ y ∈ z.is, y.2.length ≤ N1
theorem open_lists (I : Inh H F N) {A : Option Addr} {n c : Nat} {d : DataW H} {p : List MemPlace} (h : DataW.Trod enc Tryd.prog w 0 (fun _ => true) true 25 (.slice A n c) d p) (hd : F 25 d) : ∃ ls, IsLs w A n c (N 5) (N 49) (N 41) ls := by
  obtain ⟨fuel, hf⟩ := h
  haveI : Inhabited LM := ⟨⟨0, [], none, 0, 0⟩⟩
  obtain ⟨h1, h2, h3, os, h4, h5, h6⟩ := open_sliceG (x := (d, p)) I (k := 2) Tryd.underlying25 (by kernel_rfl) (by omega) LM.cells (ListIn w (N 5) (N 49)) (fun fuel l x h hd => trod_list I h hd) (by simpa [Value.cells] using hf) hd
  rw [show Tryd.prog.bytesOf 41 = 32 by kernel_rfl] at h3
  exact ⟨os, ⟨h4, h5, fun z hz => (h6 z hz).1⟩, h1, h2, h3, fun z hz => (h6 z hz).2.1, fun z hz => (h6 z hz).2.2⟩
end
/-- By the form's own reach. -/
theorem open_sR25 {H : Type} {enc : TypeId × Value → H} {w : World} {A : Option Addr} {n c : Nat} {d : DataW H} {p : List MemPlace} (h : DataW.Trod enc Tryd.prog w 0 (fun _ => true) true 25 (.slice A n c) d p) (hz : (d.weights Tryd.prog 25).all (· ≤ reachBytes) = true) : ∃ ls, IsLs w A n c 140737488351232 140737488351232 140737488351232 ls :=
  open_lists (inh_reach H) h (fun z hz2 => of_decide_eq_true (List.all_eq_true.1 hz z hz2))
/-- By the second form's bulk. -/
theorem open_lists_bulk {H : Type} {enc : TypeId × Value → H} {w : World} {A : Option Addr} {n c : Nat} {d : DataW H} {p : List MemPlace} (h : DataW.Trod enc Tryd.prog w 0 (fun _ => true) true 25 (.slice A n c) d p) (hz : Rows.uptoBulk d ≤ 1048576) : ∃ ls, IsLs w A n c 1048576 41943040 33554432 ls := by
  obtain ⟨ls, h1⟩ := open_lists (inh_bulk H) h hz
  rw [show 1048576 * Tryd.prog.bytesOf 5 = 1048576 by kernel_rfl, show 1048576 * Tryd.prog.bytesOf 49 = 41943040 by kernel_rfl, show 1048576 * Tryd.prog.bytesOf 41 = 33554432 by kernel_rfl] at h1
  exact ⟨ls, h1⟩
end
end Go.Proofs.YtfampefflkkckaaDoor
