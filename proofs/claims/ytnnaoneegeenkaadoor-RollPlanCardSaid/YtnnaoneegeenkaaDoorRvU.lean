/- The cards that stand, sorted by their names: the program's slices.SortFunc. -/
import Derived.Test.YtnnaoneegeenkaaDoorRvT
import Derived.Test.YtnnaoneegeenkaaDoorShelfB
import Derived.Sort.LotA
namespace Go.Proofs.YtnnaoneegeenkaaDoor.Kq
open Go.ChangeShapes Go.WideShapes Go.ChangeAt Go.RowKit Own Ro wordsNames Kc

abbrev F22 := Fin 22
def nmF (x : F22) : Tx := (SL.getD x.1 cd0).name
def cfF (x y : F22) : Int := Lib.compareBytes (nmF x) (nmF y)
def posF (x : F22) : Nat := ([7, 20, 16, 6, 8, 12, 3, 13, 4, 17, 11, 18, 2, 10, 19, 0, 5, 9, 14, 1, 21, 15] : List Nat).getD x.1 0
def ordL : List F22 := [15, 19, 12, 6, 8, 16, 3, 0, 4, 17, 13, 10, 5, 7, 18, 21, 2, 9, 11, 14, 1, 20]
def dF : Array F22 := #[0, 1, 2, 3, 4, 5, 6, 7, 8, 9, 10, 11, 12, 13, 14, 15, 16, 17, 18, 19, 20, 21]
theorem pos_cf : ∀ x y : F22, decide (cfF x y < 0) = decide (posF x < posF y) := by decide +kernel
theorem pos_inj : ∀ x y : F22, posF x = posF y → x = y := by decide +kernel
theorem lt_pos (x y : F22) : ltOf cfF x y = decide (posF x < posF y) := pos_cf x y
theorem swoF : Go.Sort.SWO (ltOf cfF) where
  irrefl x := by rw [lt_pos]; simp
  trans x y z h1 h2 := by
    rw [lt_pos] at *
    simp only [decide_eq_true_eq] at *
    omega
  ntrans x y z h1 h2 := by
    rw [lt_pos] at *
    simp only [decide_eq_false_iff_not] at *
    omega
theorem antiF (x y : F22) (h1 : ltOf cfF x y = false) (h2 : ltOf cfF y x = false) : x = y := by
  rw [lt_pos] at h1 h2
  simp only [decide_eq_false_iff_not] at h1 h2
  exact pos_inj x y (by omega)
theorem perm_ord : Go.Sort.PermIn 0 dF.size dF ordL.toArray := by
  refine ⟨rfl, fun i hi => ?_, ?_⟩
  · have h : 22 ≤ i := by rcases hi with h | h; omega; exact h
    rw [getElem!_neg _ _ (by show ¬ i < 22; omega), getElem!_neg _ _ (by show ¬ i < 22; omega)]
  · decide +kernel
theorem sorted_ord : Go.Sort.SortedIn (ltOf cfF) 0 dF.size ordL.toArray := by
  have h : ∀ j < 22, ∀ i < j, ltOf cfF ordL.toArray[j]! ordL.toArray[i]! = false := by
    have e : ∀ j < 22, ∀ i < j, decide (posF ordL.toArray[j]! < posF ordL.toArray[i]!) = false := by decide +kernel
    intro j hj i hi
    rw [lt_pos]
    exact e j hj i hi
  intro i j _ hij hj
  exact h j hj i hij
theorem ord_one {d' : Array F22} (hp : Go.Sort.PermIn 0 dF.size dF d') (hs : Go.Sort.SortedIn (ltOf cfF) 0 dF.size d') : d' = ordL.toArray := by
  have h1 := Go.Sort.sorted_unique_holds swoF antiF dF d' hp hs
  have h2 := Go.Sort.sorted_unique_holds swoF antiF dF ordL.toArray perm_ord sorted_ord
  exact Array.toList_inj.1 (h1.trans h2.symm)
/-- A card's cells by its place. -/
def encF (R : List Sl) (x : F22) : List Value := KC.row (SL.getD x.1 cd0, R.getD x.1 sl0)
theorem encF_len (R : List Sl) (x : F22) : (encF R x).length = 7 := Ro.row_len KC _
theorem two_alloc (W : World) (o1 o2 : Obj) : (W.alloc o1).alloc o2 = Go.Sort.grow (W.drewN 0) #[o1, o2] := by
  rw [Go.Sort.alloc_eq_grow, Go.Sort.alloc_eq_grow, Go.Sort.grow_grow]
  rfl
set_option maxRecDepth 100000 in
set_option maxHeartbeats 8000000 in
theorem cmp_any (a b : Cd) (r s : Sl) (W : World) : Calls Tryd.prog 39 #[cardV a r, cardV b s] W fun e w' => e = .returned (.int .i64 (Lib.compareBytes a.name b.name)) ∧ ∃ q os', w' = Go.Sort.grow (W.drewN q) os' := by
  have HS := Lib.hid (fun W => Tryd.strings_Compare (str a.name) (str b.name) W)
  have HV : Hid (Lib.compareBytes (str a.name).data.toList (str b.name).data.toList = Lib.compareBytes a.name b.name) := Lib.hid rfl
  obtain ⟨ra, rn, rc⟩ := r
  obtain ⟨sa, sn, sc⟩ := s
  unfold cardV cells7
  simp only [slV]
  go_enter Tryd.func39, Tryd.ntmps39
  go_wp2_with fail
  refine (HS.out _).mono ?_
  rintro e w' ⟨rfl, rfl⟩
  rw [HV.out]
  go_wp2_with fail
  go_ret
  exact ⟨rfl, 0, _, two_alloc W _ _⟩
theorem sw_heap {α : Type} [Inhabited α] (enc : α → List Value) (k : Nat) (w : World) (blk off n : Nat) (dk : Array α) (os : Array Obj) (j : Nat) (hj : j < w.heap.size) (hne : j ≠ blk) : (sortWorldK enc k w blk off n dk os).heap[j]? = w.heap[j]? := by
  have h1 : (Go.Sort.mapBlock (Go.Sort.ahead w n) blk (Go.Sort.putCells id off (Go.Sort.flatK enc k dk))).heap = w.heap.modify blk (Go.Sort.onCells (Go.Sort.putCells id off (Go.Sort.flatK enc k dk))) := rfl
  unfold sortWorldK Go.Sort.putRowK Go.Sort.putRow Go.Sort.grow
  show ((Go.Sort.mapBlock (Go.Sort.ahead w n) blk (Go.Sort.putCells id off (Go.Sort.flatK enc k dk))).heap ++ os)[j]? = _
  rw [h1, Array.getElem?_append_left (by simpa using hj), Array.getElem?_modify, if_neg (fun e => hne e.symm)]
theorem sw_size {α : Type} [Inhabited α] (enc : α → List Value) (k : Nat) (w : World) (blk off n : Nat) (dk : Array α) (os : Array Obj) : w.heap.size ≤ (sortWorldK enc k w blk off n dk os).heap.size := by
  unfold sortWorldK Go.Sort.putRowK Go.Sort.putRow Go.Sort.grow Go.Sort.mapBlock Go.Sort.ahead
  simp
theorem sw_below {α : Type} [Inhabited α] {B : Nat} {w0 w : World} (h : Below B w0 w) (enc : α → List Value) (k : Nat) (blk off n : Nat) (dk : Array α) (os : Array Obj) (hB : B ≤ blk) (hw : B ≤ w.heap.size) : Below B w0 (sortWorldK enc k w blk off n dk os) :=
  ⟨h.os, h.tape, h.output, Nat.le_trans h.size (sw_size enc k w blk off n dk os), fun j hj => (sw_heap enc k w blk off n dk os j (by omega) (by omega)).trans (h.block j hj)⟩
theorem some_bang (l : List Value) (i : Nat) (h : i < l.length) : l[i]? = some l[i]! := by
  rw [getElem!_pos l i h]
  exact List.getElem?_eq_getElem h
theorem dF_at : ∀ i < 22, (dF[i]!).1 = i := by decide +kernel
theorem holdsF {w : World} {base b c : Nat} {R : List Sl} (h : RowsOwn KC w base (some ⟨b, 0, none⟩) 22 c SL R) : Go.Sort.HoldsK (encF R) 7 w b 0 dF := by
  intro t ht
  rw [Go.Sort.size_flatK] at ht
  have ht' : t < 154 := ht
  have hfz := h.2.1.frozenAt t
  refine ⟨?_, by rw [Nat.zero_add]; exact hfz⟩
  obtain ⟨b', o', e, _, hc⟩ := (own_cells h.2.1).at (by omega)
  injection e with e
  injection e with e1 e2
  subst e1 e2
  refine hc t _ ?_
  have hd : t = t / 7 * 7 + t % 7 := by omega
  have hr := Ro.rows_at KC SL R h.2.2.1.symm (t / 7) (t % 7) (by rw [SL_len]; omega) (Nat.mod_lt _ (by omega))
  rw [show KC.k = 7 from rfl, ← hd] at hr
  rw [hr, Go.Sort.get_flatK _ _ _ _ ht]
  have hx : (dF[t / 7]!).1 = t / 7 := dF_at _ (by omega)
  unfold encF
  rw [hx]
  have hl : t % 7 < (KC.row (SL.getD (t / 7) cd0, R.getD (t / 7) sl0)).length := by rw [Ro.row_len]; exact Nat.mod_lt _ (by omega)
  show _ = some ((KC.row (SL.getD (t / 7) cd0, R.getD (t / 7) sl0))[t % 7]!)
  exact some_bang _ _ hl
/-- The cards by their names. -/
def SortPost (b : Nat) (R : List Sl) (w0 : World) (B : Nat) (e : Ending) (w' : World) : Prop :=
  e = .returned (.tuple #[]) ∧ Below B w0 w' ∧ b < w'.heap.size ∧ ∀ k, k < 22 → ∀ j u, (encF R (ordL.toArray[k]!))[j]? = some u → w'.cell? ⟨b, k * 7 + j, none⟩ = some u
set_option maxRecDepth 100000 in
set_option maxHeartbeats 8000000 in
theorem sort_any {w w0 : World} {B base b c : Nat} {R : List Sl} (h : RowsOwn KC w base (some ⟨b, 0, none⟩) 22 c SL R) (hb : Below B w0 w) (hB : B ≤ b) (hlt : b < w.heap.size) :
    Calls Tryd.prog 38 #[.slice (some ⟨b, 0, none⟩) 22 c, .func (.func 39) #[] #[]] w (SortPost b R w0 B) := by
  refine (Tryd.slices_SortFunc (α := F22) 7 (fun w => by kernel_rfl) (fun w => by kernel_rfl) (encF R) (encF_len R) (fun x v hv => ?_) cfF swoF 39 #[] b 0 c dF w (enters_of Tryd.func39 (by kernel_rfl) rfl) ?_ (holdsF h) hlt (by decide)).mono ?_
  · exact Ro.one_row KC _ v hv
  · intro m os dk _ x y
    exact cmp_any (SL.getD x.1 cd0) (SL.getD y.1 cd0) (R.getD x.1 sl0) (R.getD y.1 sl0) _
  · rintro e w' ⟨rfl, d', n, os, hp, hs, rfl⟩
    obtain rfl := ord_one hp hs
    have hH := holdsK_sortWorldK (encF R) 7 w b 0 n dF ordL.toArray os hlt (holdsF h) rfl
    refine ⟨rfl, sw_below hb _ _ _ _ _ _ _ hB (by omega), lt_sortWorldK _ _ _ _ _ _ _ _ hlt, fun k hk j u hu => ?_⟩
    have hj : j < 7 := by
      have := (List.getElem?_eq_some_iff.1 hu).1
      rwa [encF_len] at this
    have ht : k * 7 + j < ordL.toArray.size * 7 := by show k * 7 + j < 154; omega
    have h1 := (hH (k * 7 + j) (by rw [Go.Sort.size_flatK]; exact ht)).1
    rw [Nat.zero_add] at h1
    rw [h1, Go.Sort.get_flatK _ _ _ _ ht, show (k * 7 + j) / 7 = k by omega, show (k * 7 + j) % 7 = j by omega]
    have hl := (List.getElem?_eq_some_iff.1 hu).1
    show some ((encF R (ordL.toArray[k]!))[j]!) = some u
    rw [← hu]
    exact (some_bang _ _ hl).symm
end Go.Proofs.YtnnaoneegeenkaaDoor.Kq
