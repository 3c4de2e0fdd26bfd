/- The contract of the document's shown. -/
import Derived.Test.YtaoekpedjgnnjaaDoorRfJ
namespace Go.Proofs.YtaoekpedjgnnjaaDoor.Wd
open Go.ChangeShapes Go.WideShapes Go.ChangeAt Go.RowKit Own Bld Go.Lib Nums

def ones (l : List UInt8) : List (List UInt8) := l.map fun d => [d]
/-- The runes in which the document shows a piece. -/
def shQ (p : List UInt8) (z : Int) (q : Bool) : List (List UInt8) := if z < 32 ∨ (127 ≤ z ∧ z ≤ 159) then ones (p.flatMap escB) else if z = 92 ∨ (q = true ∧ z = 34) then [[92], p] else [p]
def MadeS (xs : List (List UInt8)) (w : World) (e : Ending) (w' : World) : Prop :=
  ∃ v n, e = .returned v ∧ n = xs.length ∧ w'.ownsRow w.heap.size 9 1 v n (strs xs) ∧ Below w.heap.size w w'
theorem own_mono {w : World} {b base : Nat} {e : TypeId} {v : Value} {n k : Nat} {xs : List Value} (h : w.ownsRow b e k v n xs) (hb : base ≤ b) : w.ownsRow base e k v n xs := by
  rcases h.2 with h0 | ⟨g, cap, cur, hv, hg, r⟩
  · exact ⟨h.1, .inl h0⟩
  · exact ⟨h.1, .inr ⟨g, cap, cur, hv, Nat.le_trans hb hg, r⟩⟩
theorem own_cells (w : World) (base : Nat) (hb : base ≤ w.heap.size) (cs : Array Value) (t : TypeId) (n : Nat) (hn : cs.size = n) (hm : n ≤ 1000) : (w.alloc (.cells cs t)).ownsRow base t 1 (.slice (some ⟨w.heap.size, 0, none⟩) n n) n cs.toList := by
  subst hn
  exact ⟨by simp, .inr ⟨w.heap.size, cs.size, cs, rfl, hb, heap_alloc_new w _, Nat.le_refl _, by unfold maxLen; omega, by simp, by rw [Nat.mul_one]; exact List.take_of_length_le (by simp)⟩⟩
theorem src_cells' (w : World) (cs : Array Value) (t : TypeId) : Src (w.alloc (.cells cs t)).drew (some ⟨w.heap.size, 0, none⟩) cs.size cs.size cs.toList := by
  refine .inr ⟨_, rfl, by simp, fun j u hu => ?_⟩
  have h : (w.alloc (.cells cs t)).cell? ((⟨w.heap.size, 0, none⟩ : Addr).add j) = some u := by
    rw [add_none', Nat.zero_add, Lib.cell_of_heap (heap_alloc_new w _)]
    simpa using hu
  exact h
theorem box_cell0 (w : World) (a b : Value) (t : TypeId) : (w.alloc (.cells #[a, b] t)).cell? ⟨w.heap.size, 0, none⟩ = some a := by rw [Lib.cell_of_heap (heap_alloc_new w _)]; rfl
theorem box_cell1 (w : World) (a b : Value) (t : TypeId) : (w.alloc (.cells #[a, b] t)).cell? ⟨w.heap.size, 1, none⟩ = some b := by rw [Lib.cell_of_heap (heap_alloc_new w _)]; rfl

theorem made1 {p : List UInt8} {P : ByteArray} (h : str p = P) (w : World) (o : Obj) : MadeS [p] w (.returned (.slice (some ⟨w.heap.size + 1, 0, none⟩) 1 1)) ((w.alloc o).alloc (.cells #[.string P] 9)) := by
  subst h
  have h1 := own_cells (w.alloc o) w.heap.size (by simp) #[.string (str p)] 9 1 rfl (by omega)
  have e : (w.alloc o).heap.size = w.heap.size + 1 := by simp
  rw [e] at h1
  exact ⟨_, 1, rfl, rfl, h1, ((Below.refl _ _).alloc (Nat.le_refl _) _).alloc (by simp) _⟩
theorem made2 {p : List UInt8} {P : ByteArray} (h : str p = P) (w : World) (o : Obj) : MadeS [[92], p] w (.returned (.slice (some ⟨w.heap.size + 1, 0, none⟩) 2 2)) ((w.alloc o).alloc (.cells #[.string ⟨#[92]⟩, .string P] 9)) := by
  subst h
  have h1 := own_cells (w.alloc o) w.heap.size (by simp) #[.string ⟨#[92]⟩, .string (str p)] 9 2 rfl (by omega)
  have e : (w.alloc o).heap.size = w.heap.size + 1 := by simp
  rw [e] at h1
  exact ⟨_, 2, rfl, rfl, h1, ((Below.refl _ _).alloc (Nat.le_refl _) _).alloc (by simp) _⟩

set_option maxRecDepth 100000 in
set_option maxHeartbeats 4000000 in
theorem shown_plain (p : List UInt8) (z : Int) (q : Bool) (w : World) (hz0 : -2147483648 ≤ z) (hz1 : z ≤ 2147483647) (h : ¬ (z < 32 ∨ (127 ≤ z ∧ z ≤ 159))) :
    Calls Tryd.prog 39 #[.agg #[.string (str p), .int .i32 z], .bool q] w (MadeS (shQ p z q) w) := by
  have c0 := box_cell0 w (.string (str p)) (.int .i32 z) 67
  have c1 := box_cell1 w (.string (str p)) (.int .i32 z) 67
  have t1 : decide (z < 32) = false := decide_eq_false (by omega)
  have HSH : Hid (shQ p z q = if z = 92 ∨ (q = true ∧ z = 34) then [[92], p] else [p]) := Lib.hid (if_neg h)
  have hx : z < 127 ∨ 159 < z := by omega
  clear h
  by_cases h127 : 127 ≤ z
  case' pos =>
    have t2 : decide ((127 : Int) ≤ z) = true := decide_eq_true h127
    have t3 : decide (z ≤ 159) = false := decide_eq_false (by omega)
  case' neg => have t2 : decide ((127 : Int) ≤ z) = false := decide_eq_false h127
  all_goals
    by_cases h92 : z = 92
    case' pos =>
      have HV : Hid (shQ p z q = [[92], p]) := Lib.hid (by rw [HSH.out, if_pos (.inl h92)])
      have t4 : (z == 92) = true := beq_iff_eq.2 h92
    case' neg =>
      have t4 : (z == 92) = false := beq_eq_false_iff_ne.2 h92
      by_cases h34 : q = true ∧ z = 34
      case' pos =>
        have HV : Hid (shQ p z q = [[92], p]) := Lib.hid (by rw [HSH.out, if_pos (.inr h34)])
        have t5 : (z == 34) = true := beq_iff_eq.2 h34.2
        have hq := h34.1
        subst hq
      case' neg =>
        have HV : Hid (shQ p z q = [p]) := Lib.hid (by rw [HSH.out, if_neg (by intro h; rcases h with h | h; exact h92 h; exact h34 h)])
        cases q
        case' true => have t5 : (z == 34) = false := beq_eq_false_iff_ne.2 fun h => h34 ⟨rfl, h⟩
    all_goals
      clear HSH hx
      try clear h34
      clear h92 h127
      obtain ⟨P, hP⟩ : ∃ P, str p = P := ⟨_, rfl⟩
      rw [hP] at c0 ⊢
      have HP := Lib.hid hP
      clear hP
      go_enter Tryd.func39, Tryd.ntmps39
      go_wp2_with fail
      go_ret
      rw [HV.out]
      first | exact made2 HP.out w _ | exact made1 HP.out w _
def hexT : ByteArray := ⟨#[48, 49, 50, 51, 52, 53, 54, 55, 56, 57, 97, 98, 99, 100, 101, 102]⟩
theorem hexT_at0 : ∀ x : Fin 16, (hexT.extract x.val (x.val + 1)).data.toList = [hd x.val] := by decide +kernel
theorem hexT_at (x : Nat) (h : x < 16) : hexT.extract x (x + 1) = str [hd x] := bytes_ext (by rw [str_list]; exact hexT_at0 ⟨x, h⟩)
theorem ones_app (a b : List UInt8) : ones (a ++ b) = ones a ++ ones b := by unfold ones; rw [List.map_append]
theorem esc_take (p : List UInt8) (k : Nat) (h : k < p.length) : ones ((p.take (k + 1)).flatMap escB) = ones ((p.take k).flatMap escB) ++ ones (escB (p.getD k 0)) := by
  rw [List.take_succ_eq_append_getElem h, List.flatMap_append, ones_app, List.getD_eq_getElem?_getD, List.getElem?_eq_getElem h]
  simp

theorem step_app {P : Program} {w : World} {ops : Array Oper} {o : Oper} {a : Act} {K : Act → World → Prop} {Q : Exit → Act → World → Prop} {E' : Prop} (hw : Region.wanted o (yielded ops a.tmps) = true) (s x : Operand) (t : TypeId)
    (ho : o.op = .call { callee := .builtin .append, args := #[s, x], argTypes := #[t, t] })
    (base : Nat) (e : TypeId) (z : Value) (bytes : Nat) (ht : P.underlying t = some (.slice e)) (hinfo : (P.info? e).map (fun i => (i.zero, i.size, i.bytes)) = some (some z, 1, bytes)) (hzs : z.cells.size = 1)
    (v : Value) (n : Nat) (xs : List Value) (hs : a.eval s = v) (hown : w.ownsRow base e 1 v n xs)
    (ad : Addr) (m c : Nat) (news : List Value) (hx : a.eval x = .slice (some ad) m c) (hsrc : Src w (some ad) m c news) (h1 : ∀ u ∈ news, u.oneCell' = true)
    (h63 : n + m ≤ 140737488355328) (hbytes : (n + m) * bytes ≤ 140737488355328) (hbase : base ≤ w.heap.size)
    (h : ∀ v' w', w'.ownsRow base e 1 v' (n + m) (xs ++ news) → w.grownBy w' v.ownBlock → K (a.put o.dst v') w') :
    if Region.wanted o (yielded ops a.tmps) = true then Oper.wp P o a w K Q else E' := by
  rw [if_pos hw]
  obtain ⟨i, hi, hz, hz1, hz2⟩ := info_parts hinfo
  rcases hsrc with ⟨h0, _⟩ | ⟨a', ha, hl, hc⟩
  · cases h0
  · injection ha with ha
    subst ha
    exact wp_append_own w s x t ho base e i z 1 bytes ht hi hz hz1 hz2 hzs (by omega) v n xs hs hown ad m c news hx (by omega) hc h1 (by unfold maxLen; omega) hbytes hbase (fun v' w' h2 h3 _ => h v' w' h2 h3)
theorem grows2 (w : World) (o : Obj) : Below w.heap.size w (w.alloc o).drew := (grows' w o).trans ⟨rfl, rfl, rfl, Nat.le_refl _, fun _ _ => rfl⟩
theorem own_alloc_drew {w : World} {base n : Nat} {E : TypeId} {v : Value} {xs : List Value} (h : w.ownsRow base E 1 v n xs) (o : Obj) : (w.alloc o).drew.ownsRow base E 1 v n xs := own_below h (grows2 w o) (Nat.le_refl _)
theorem four_one (a b c d : ByteArray) : ∀ u ∈ [Value.string a, Value.string b, Value.string c, Value.string d], u.oneCell' = true := by
  intro u hu
  simp at hu
  rcases hu with rfl | rfl | rfl | rfl <;> rfl
theorem strs_app (a b : List (List UInt8)) : strs (a ++ b) = strs a ++ strs b := by unfold strs; rw [List.map_append]

set_option maxRecDepth 100000 in
set_option maxHeartbeats 8000000 in
theorem shown_hidden (p : List UInt8) (z : Int) (q : Bool) (w : World) (hz0 : -2147483648 ≤ z) (hz1 : z ≤ 2147483647) (hp : p.length ≤ 1000) (h : z < 32 ∨ (127 ≤ z ∧ z ≤ 159)) :
    Calls Tryd.prog 39 #[.agg #[.string (str p), .int .i32 z], .bool q] w (MadeS (shQ p z q) w) := by
  have c0 := box_cell0 w (.string (str p)) (.int .i32 z) 67
  have c1 := box_cell1 w (.string (str p)) (.int .i32 z) 67
  have HSH : Hid (shQ p z q = ones (p.flatMap escB)) := Lib.hid (if_pos h)
  have hps : (str p).size = p.length := rfl
  have HPS := Lib.hid hps
  by_cases h1 : z < 32
  case' pos => have t1 : decide (z < 32) = true := decide_eq_true h1
  case' neg =>
    have t1 : decide (z < 32) = false := decide_eq_false h1
    have t2 : decide ((127 : Int) ≤ z) = true := decide_eq_true (by omega)
    have t3 : decide (z ≤ 159) = true := decide_eq_true (by omega)
  all_goals
    clear h h1 hps
    obtain ⟨P, hP⟩ : ∃ P, str p = P := ⟨_, rfl⟩
    rw [hP] at c0 HPS ⊢
    have HP := Lib.hid hP
    clear hP
    have hPz : P.size ≤ 1000 := by have := HPS.out; omega
    go_enter Tryd.func39, Tryd.ntmps39
    go_wp2_with fail
    go_loopw [5, 6] (fun v5 v6 wr => ∃ k n : Nat, k ≤ P.size ∧ v6 = .int .i64 k ∧ Hid (n = 4 * k) ∧ wr.ownsRow (w.heap.size + 1) 9 1 v5 n (strs (ones ((p.take k).flatMap escB))) ∧ wr.cell? ⟨w.heap.size, 0, none⟩ = some (.string P) ∧ Below w.heap.size w wr) (fun _ v6 _ => P.size - (RowKit.intOf v6).toNat)
    case atStart => exact ⟨0, 0, Nat.zero_le _, rfl, Lib.hid rfl, ⟨rfl, .inl ⟨rfl, rfl⟩⟩, c0, (Below.refl _ _).alloc (Nat.le_refl _) _⟩
    case round =>
      obtain ⟨k, n, hk, rfl, HN, hown, hc0, hbw⟩ := hrel
      have HO := Lib.hid hown
      have HB := Lib.hid hbw
      have hbx : w.heap.size < wr.heap.size := World.block_lt_of_cell? _ _ hc0
      clear hown hbw c0 c1
      by_cases hlt : k < P.size
      · obtain ⟨c, hcE⟩ : ∃ c, P[k] = c := ⟨_, rfl⟩
        have hcb := c.toNat_lt
        have HCP : Hid (p.getD k 0 = c) := Lib.hid (by
          have hpl : P.data.toList = p := by rw [← HP.out, str_list]
          have h := getD_at P k hlt
          rw [hcE, hpl] at h
          exact h)
        obtain ⟨x, hx⟩ : ∃ x, x = c.toNat / 16 := ⟨_, rfl⟩
        obtain ⟨y, hy⟩ : ∃ y, y = c.toNat % 16 := ⟨_, rfl⟩
        have hx16 : x < 16 := by omega
        have hy16 : y < 16 := by omega
        have HES : Hid (strs (ones (escB (p.getD k 0))) = [.string ⟨#[92]⟩, .string ⟨#[120]⟩, .string (str [hd x]), .string (str [hd y])]) := Lib.hid (by rw [HCP.out, hx, hy]; rfl)
        have d1 : ((c.toNat : Int)).tdiv 16 = (x : Int) := by rw [Int.tdiv_eq_ediv_of_nonneg (by omega)]; omega
        have d2 : ((c.toNat : Int)).tmod 16 = (y : Int) := by rw [Int.tmod_eq_emod_of_nonneg (by omega)]; omega
        have d3 : (c.toNat : Int) / 16 = (x : Int) := by omega
        have d4 : (c.toNat : Int) % 16 = (y : Int) := by omega
        have X1 : (⟨#[48, 49, 50, 51, 52, 53, 54, 55, 56, 57, 97, 98, 99, 100, 101, 102]⟩ : ByteArray).extract x (x + 1) = str [hd x] := hexT_at x hx16
        have Y1 : (⟨#[48, 49, 50, 51, 52, 53, 54, 55, 56, 57, 97, 98, 99, 100, 101, 102]⟩ : ByteArray).extract y (y + 1) = str [hd y] := hexT_at y hy16
        clear hx hy
        have w1 : IntKind.u8.wrap ((x : Int) + 1) = (x : Int) + 1 := by simp [IntKind.wrap, IntKind.bits, IntKind.signed]; omega
        have w2 : IntKind.u8.wrap ((y : Int) + 1) = (y : Int) + 1 := by simp [IntKind.wrap, IntKind.bits, IntKind.signed]; omega
        have w3 : IntKind.u8.wrap (x : Int) = (x : Int) := by simp [IntKind.wrap, IntKind.bits, IntKind.signed]; omega
        have w4 : IntKind.u8.wrap (y : Int) = (y : Int) := by simp [IntKind.wrap, IntKind.bits, IntKind.signed]; omega
        have n1 : ((x : Int) + 1).toNat = x + 1 := by omega
        have n2 : ((y : Int) + 1).toNat = y + 1 := by omega
        have b1 : (0 : Int) ≤ (x : Int) := by omega
        have b2 : (0 : Int) ≤ (y : Int) := by omega
        have b3 : (x : Int) ≤ (x : Int) + 1 := by omega
        have b4 : (y : Int) ≤ (y : Int) + 1 := by omega
        have b5 : (x : Int) + 1 ≤ 16 := by omega
        have b6 : (y : Int) + 1 ≤ 16 := by omega
        have b7 : (0 : Int) ≤ (k : Int) := by omega
        have b8 : (k : Int) < (P.size : Int) := by omega
        go_wp2_with fail
        refine wp_region_noPanic ?_
        refine wp_region_held_drew (S := fun w' => w'.cell? ⟨w.heap.size, 0, none⟩ = some (.string P)) (by kernel_rfl) hc0 (fun hHeld => ?_)
        first | (refine' takeH (i := 0) (dst := some 27) (v := _) rfl rfl (by kernel_rfl) (by kernel_rfl) (by kernel_rfl) (fun _ _ _ h => h) (by rfl) ?hy hHeld ?_; case hy => (intro w hSw; (try dsimp only at hSw); go_simp; try with_reducible rfl)) | fail
        try simp only [Act.put, List.setIfInBounds_toArray, List.set_cons_zero, List.set_cons_succ]
        first | (refine' takeH (i := 1) (dst := some 28) (v := _) rfl rfl (by kernel_rfl) (by kernel_rfl) (by kernel_rfl) (fun _ _ _ h => h) (by rfl) ?hy hHeld ?_; case hy => (intro w hSw; (try dsimp only at hSw); go_simp; try with_reducible rfl)) | fail
        try simp only [Act.put, List.setIfInBounds_toArray, List.set_cons_zero, List.set_cons_succ]
        first | (refine' takeH (i := 2) (dst := some 29) (v := _) rfl rfl (by kernel_rfl) (by kernel_rfl) (by kernel_rfl) (fun _ _ _ h => h) (by rfl) ?hy hHeld ?_; case hy => (intro w hSw; (try dsimp only at hSw); go_simp; try with_reducible rfl)) | fail
        try simp only [Act.put, List.setIfInBounds_toArray, List.set_cons_zero, List.set_cons_succ]
        first | (refine' takeH (i := 3) (dst := some 30) (v := _) rfl rfl (by kernel_rfl) (by kernel_rfl) (by kernel_rfl) (fun _ _ _ h => h) (by rfl) ?hy hHeld ?_; case hy => (intro w hSw; (try dsimp only at hSw); go_simp; try with_reducible rfl)) | fail
        try simp only [Act.put, List.setIfInBounds_toArray, List.set_cons_zero, List.set_cons_succ]
        first | (refine' takeH (i := 4) (dst := some 31) (v := _) rfl rfl (by kernel_rfl) (by kernel_rfl) (by kernel_rfl) (fun _ _ _ h => h) (by rfl) ?hy hHeld ?_; case hy => (intro w hSw; (try dsimp only at hSw); go_simp; try with_reducible rfl)) | fail
        try simp only [Act.put, List.setIfInBounds_toArray, List.set_cons_zero, List.set_cons_succ]
        first | (refine' takeH (i := 5) (dst := some 32) (v := _) rfl rfl (by kernel_rfl) (by kernel_rfl) (by kernel_rfl) (fun _ _ _ h => h) (by rfl) ?hy hHeld ?_; case hy => (intro w hSw; (try dsimp only at hSw); go_simp; try with_reducible rfl)) | fail
        try simp only [Act.put, List.setIfInBounds_toArray, List.set_cons_zero, List.set_cons_succ]
        first | (refine' takeH (i := 6) (dst := some 33) (v := _) rfl rfl (by kernel_rfl) (by kernel_rfl) (by kernel_rfl) (fun _ _ _ h => h) (by rfl) ?hy hHeld ?_; case hy => (intro w hSw; (try dsimp only at hSw); go_simp; try with_reducible rfl)) | fail
        try simp only [Act.put, List.setIfInBounds_toArray, List.set_cons_zero, List.set_cons_succ]
        first | (refine' takeH (i := 7) (dst := some 34) (v := _) rfl rfl (by kernel_rfl) (by kernel_rfl) (by kernel_rfl) (fun _ _ _ h => h) (by rfl) ?hy hHeld ?_; case hy => (intro w hSw; (try dsimp only at hSw); go_simp; try with_reducible rfl)) | fail
        try simp only [Act.put, List.setIfInBounds_toArray, List.set_cons_zero, List.set_cons_succ]
        first | (refine' takeH (i := 8) (dst := some 35) (v := _) rfl rfl (by kernel_rfl) (by kernel_rfl) (by kernel_rfl) (fun _ _ _ h => h) (by rfl) ?hy hHeld ?_; case hy => (intro w hSw; (try dsimp only at hSw); go_simp; try with_reducible rfl)) | fail
        try simp only [Act.put, List.setIfInBounds_toArray, List.set_cons_zero, List.set_cons_succ]
        first | (refine' takeH (i := 9) (dst := some 36) (v := _) rfl rfl (by kernel_rfl) (by kernel_rfl) (by kernel_rfl) (fun _ _ _ h => h) (by rfl) ?hy hHeld ?_; case hy => (intro w hSw; (try dsimp only at hSw); go_simp; try with_reducible rfl)) | fail
        try simp only [Act.put, List.setIfInBounds_toArray, List.set_cons_zero, List.set_cons_succ]
        first | (refine' takeH (i := 10) (dst := some 37) (v := _) rfl rfl (by kernel_rfl) (by kernel_rfl) (by kernel_rfl) (fun _ _ _ h => h) (by rfl) ?hy hHeld ?_; case hy => (intro w hSw; (try dsimp only at hSw); go_simp; try with_reducible rfl)) | fail
        try simp only [Act.put, List.setIfInBounds_toArray, List.set_cons_zero, List.set_cons_succ]
        first | (refine' takeH (i := 11) (dst := some 38) (v := _) rfl rfl (by kernel_rfl) (by kernel_rfl) (by kernel_rfl) (fun _ _ _ h => h) (by rfl) ?hy hHeld ?_; case hy => (intro w hSw; (try dsimp only at hSw); go_simp; try with_reducible rfl)) | fail
        try simp only [Act.put, List.setIfInBounds_toArray, List.set_cons_zero, List.set_cons_succ]
        first | (refine' takeH (i := 12) (dst := some 39) (v := _) rfl rfl (by kernel_rfl) (by kernel_rfl) (by kernel_rfl) (fun _ _ _ h => h) (by rfl) ?hy hHeld ?_; case hy => (intro w hSw; (try dsimp only at hSw); go_simp; try with_reducible rfl)) | fail
        try simp only [Act.put, List.setIfInBounds_toArray, List.set_cons_zero, List.set_cons_succ]
        first | (refine' takeH (i := 13) (dst := some 40) (v := _) rfl rfl (by kernel_rfl) (by kernel_rfl) (by kernel_rfl) (fun _ _ _ h => h) (by rfl) ?hy hHeld ?_; case hy => (intro w hSw; (try dsimp only at hSw); go_simp; try with_reducible rfl)) | fail
        try simp only [Act.put, List.setIfInBounds_toArray, List.set_cons_zero, List.set_cons_succ]
        first | (refine' takeH (i := 14) (dst := some 41) (v := _) rfl rfl (by kernel_rfl) (by kernel_rfl) (by kernel_rfl) (fun _ _ _ h => h) (by rfl) ?hy hHeld ?_; case hy => (intro w hSw; (try dsimp only at hSw); go_simp; try with_reducible rfl)) | fail
        try simp only [Act.put, List.setIfInBounds_toArray, List.set_cons_zero, List.set_cons_succ]
        first | (refine' takeH (i := 15) (dst := some 42) (v := _) rfl rfl (by kernel_rfl) (by kernel_rfl) (by kernel_rfl) (fun _ _ _ h => h) (by rfl) ?hy hHeld ?_; case hy => (intro w hSw; (try dsimp only at hSw); go_simp; try with_reducible rfl)) | fail
        try simp only [Act.put, List.setIfInBounds_toArray, List.set_cons_zero, List.set_cons_succ]
        first | (refine' takeH (i := 16) (dst := some 43) (v := _) rfl rfl (by kernel_rfl) (by kernel_rfl) (by kernel_rfl) (fun _ _ _ h => h) (by rfl) ?hy hHeld ?_; case hy => (intro w hSw; (try dsimp only at hSw); go_simp; try with_reducible rfl)) | fail
        try simp only [Act.put, List.setIfInBounds_toArray, List.set_cons_zero, List.set_cons_succ]
        first | (refine' takeH (i := 17) (dst := some 44) (v := _) rfl rfl (by kernel_rfl) (by kernel_rfl) (by kernel_rfl) (fun _ _ _ h => h) (by rfl) ?hy hHeld ?_; case hy => (intro w hSw; (try dsimp only at hSw); go_simp; try with_reducible rfl)) | fail
        try simp only [Act.put, List.setIfInBounds_toArray, List.set_cons_zero, List.set_cons_succ]
        first | (refine' takeH (i := 18) (dst := some 45) (v := _) rfl rfl (by kernel_rfl) (by kernel_rfl) (by kernel_rfl) (fun _ _ _ h => h) (by rfl) ?hy hHeld ?_; case hy => (intro w hSw; (try dsimp only at hSw); go_simp; try with_reducible rfl)) | fail
        try simp only [Act.put, List.setIfInBounds_toArray, List.set_cons_zero, List.set_cons_succ]
        first | (refine' takeH (i := 19) (dst := some 46) (v := _) rfl rfl (by kernel_rfl) (by kernel_rfl) (by kernel_rfl) (fun _ _ _ h => h) (by rfl) ?hy hHeld ?_; case hy => (intro w hSw; (try dsimp only at hSw); go_simp; try with_reducible rfl)) | fail
        try simp only [Act.put, List.setIfInBounds_toArray, List.set_cons_zero, List.set_cons_succ]
        first | (refine' takeH (i := 20) (dst := some 47) (v := _) rfl rfl (by kernel_rfl) (by kernel_rfl) (by kernel_rfl) (fun _ _ _ h => h) (by rfl) ?hy hHeld ?_; case hy => (intro w hSw; (try dsimp only at hSw); go_simp; try with_reducible rfl)) | fail
        try simp only [Act.put, List.setIfInBounds_toArray, List.set_cons_zero, List.set_cons_succ]
        first | (refine' takeH (i := 21) (dst := some 48) (v := _) rfl rfl (by kernel_rfl) (by kernel_rfl) (by kernel_rfl) (fun _ _ _ h => h) (by rfl) ?hy hHeld ?_; case hy => (intro w hSw; (try dsimp only at hSw); go_simp; try with_reducible rfl)) | fail
        try simp only [Act.put, List.setIfInBounds_toArray, List.set_cons_zero, List.set_cons_succ]
        first | (refine' takeH (i := 22) (dst := some 49) (v := _) rfl rfl (by kernel_rfl) (by kernel_rfl) (by kernel_rfl) (fun _ _ _ h => h) (by rfl) ?hy hHeld ?_; case hy => (intro w hSw; (try dsimp only at hSw); go_simp; try with_reducible rfl)) | fail
        try simp only [Act.put, List.setIfInBounds_toArray, List.set_cons_zero, List.set_cons_succ]
        first | (refine' takeH (i := 23) (dst := some 50) (v := _) rfl rfl (by kernel_rfl) (by kernel_rfl) (by kernel_rfl) (fun _ _ _ h => h) (by rfl) ?hy hHeld ?_; case hy => (intro w hSw; (try dsimp only at hSw); go_simp; try with_reducible rfl)) | fail
        try simp only [Act.put, List.setIfInBounds_toArray, List.set_cons_zero, List.set_cons_succ]
        first | (refine' takeH (i := 24) (dst := some 51) (v := _) rfl rfl (by kernel_rfl) (by kernel_rfl) (by kernel_rfl) (fun _ _ _ h => h) (by rfl) ?hy hHeld ?_; case hy => (intro w hSw; (try dsimp only at hSw); go_simp; try with_reducible rfl)) | fail
        try simp only [Act.put, List.setIfInBounds_toArray, List.set_cons_zero, List.set_cons_succ]
        obtain ⟨X, hX⟩ : ∃ X, str [hd x] = X := ⟨_, rfl⟩
        obtain ⟨Y, hY⟩ : ∃ Y, str [hd y] = Y := ⟨_, rfl⟩
        rw [hX, hY] at HES
        have HLT := Lib.hid hlt
        clear w1 w2 w3 w4 n1 n2 b1 b2 b3 b4 b5 b6 b7 b8 d1 d2 d3 d4 X1 Y1
        rw [hX, hY]
        clear hX hY
        refine wpAnyH_ready (rs := [25]) (by kernel_rfl) (by simp) ?_
        refine AllReadyH.cons (i := 25) (o := ⟨some 52, .buildSlice _ _ _, _, _, _, _⟩) rfl (fun K hK => ?_) AllReadyH.nil
        go_simp
        refine hK.out _ _ (((grows' wr _).cell (p := ⟨w.heap.size, 0, none⟩) hbx).trans hc0) (fun hHeld2 => ?_)
        clear hK K hHeld
        have hHeld := hHeld2
        clear hHeld2
        try simp only [Act.put, List.setIfInBounds_toArray, List.set_cons_zero, List.set_cons_succ]
        have hk4 : n ≤ 4000 := by have h1 := HN.out; have h2 := HPS.out; omega
        refine wpAnyH_ready (rs := [26]) (by kernel_rfl) (by simp) ?_
        refine AllReadyH.cons (i := 26) (o := ⟨some 53, .call _, _, _, _, _⟩) rfl (fun K hK => ?_) AllReadyH.nil
        refine step_app (o := ⟨some 53, _, _, _, _, _⟩) (by first | rfl | simp [Region.wanted, yielded]) (.tmp 27) (.tmp 52) 25 (by rfl) (w.heap.size + 1) 9 (.string ByteArray.empty) 16 Tryd.underlying25 info_str rfl _ n _ (by rfl) (own_alloc_drew HO.out _) _ 4 4 _ (by rfl) (src_cells' wr #[.string ⟨#[92]⟩, .string ⟨#[120]⟩, .string X, .string Y] 9) (four_one _ _ _ _) (by omega) (by omega) (Nat.le_trans hbx (grows' wr _).size) ?_
        intro v3 w3 ho3 hg3
        have HK3 := Lib.hid (grown_row (Below.refl (w.heap.size + 1) _) (own_alloc_drew HO.out _) (Nat.le_refl _) (Nat.le_trans hbx (grows' wr _).size) hg3)
        have hS3 : w3.cell? ⟨w.heap.size, 0, none⟩ = some (.string P) := (HK3.out.cell (p := ⟨w.heap.size, 0, none⟩) (Nat.lt_succ_self _)).trans hHeld
        have HB3 : Hid (Below w.heap.size w w3) := Lib.hid (grown_row (HB.out.trans ((grows2 wr _).mono HB.out.size)) (own_alloc_drew HO.out _) (Nat.le_succ _) (Nat.le_trans HB.out.size (grows' wr _).size) hg3)
        rw [show (#[Value.string ⟨#[92]⟩, .string ⟨#[120]⟩, .string X, .string Y] : Array Value).toList = strs (ones (escB (p.getD k 0))) from HES.out.symm, ← strs_app, ← esc_take p k (by rw [← HPS.out]; exact hlt)] at ho3
        have HO3 := Lib.hid ho3
        refine hK.out _ _ hS3 (fun _ => ?_)
        clear hK K hHeld ho3 hg3 HK3
        have hHeld := hS3
        try simp only [Act.put, List.setIfInBounds_toArray, List.set_cons_zero, List.set_cons_succ]
        refine' takeH (i := 27) (dst := some 5) (v := _) rfl rfl (by kernel_rfl) (by kernel_rfl) (by kernel_rfl) (fun _ _ _ h => h) (by rfl) ?hy hHeld ?_
        case hy => (intro w hSw; (try dsimp only at hSw); go_simp; try with_reducible rfl)
        try simp only [Act.put, List.setIfInBounds_toArray, List.set_cons_zero, List.set_cons_succ]
        refine wpAnyH_done (by kernel_rfl) ?_ _
        refine NoPanic.normal ?_
        go_wp2_with fail
        go_roundw
        case rel => exact ⟨k + 1, n + 4, HLT.out, by go_num, Lib.hid (by rw [HN.out]; omega), HO3.out, hS3, HB3.out⟩
        case measure => have h := HLT.out; simp [RowKit.intOf]; omega
      · obtain rfl : k = P.size := by omega
        have HT : Hid (p.take P.size = p) := Lib.hid (List.take_of_length_le (by rw [HPS.out]; exact Nat.le_refl _))
        go_wp2_with fail
        go_ret
        rw [HSH.out]
        have h := HO.out
        rw [HT.out] at h
        have hl := h.1
        rw [strs_len, Nat.mul_one] at hl
        exact ⟨_, n, rfl, hl.symm, own_mono h (Nat.le_succ _), HB.out⟩
theorem docShown_any (p : List UInt8) (z : Int) (q : Bool) (w : World) (hz0 : -2147483648 ≤ z) (hz1 : z ≤ 2147483647) (hp : p.length ≤ 1000) :
    Calls Tryd.prog 39 #[.agg #[.string (str p), .int .i32 z], .bool q] w (MadeS (shQ p z q) w) := by
  by_cases h : z < 32 ∨ (127 ≤ z ∧ z ≤ 159)
  · exact shown_hidden p z q w hz0 hz1 hp h
  · exact shown_plain p z q w hz0 hz1 h
end Go.Proofs.YtaoekpedjgnnjaaDoor.Wd
