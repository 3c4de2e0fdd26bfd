/- Way (P9.3): the program's and the document's. -/
import Derived.Test.YtpoijmncdicdkaaDoorSuE
namespace Go.Proofs.YtpoijmncdicdkaaDoor.Su
open Go.ChangeShapes Go.WideShapes Go.ChangeAt Go.RowKit Own Ro

/-- The places on the way, and how many steps it has. -/
def wat (i k : Int) (j : Nat) : Int := if k < i then i - j else i + j
def wayN (i k : Int) : Nat := (max (k - i) (i - k)).toNat
def wayV (i k : Int) (m : Nat) : List Value := (List.range m).map fun j => .int .i64 (wat i k j)
theorem wayV_snoc (i k : Int) (m : Nat) : wayV i k m ++ [.int .i64 (wat i k m)] = wayV i k (m + 1) := by
  unfold wayV
  rw [List.range_succ, List.map_append]
  rfl
theorem wayV_one (i k : Int) : wayV i k 1 = [.int .i64 i] := by
  unfold wayV wat
  simp
theorem info_int : (Tryd.prog.info? 3).map (fun i => (i.zero, i.size, i.bytes)) = some (some (.int .i64 0), 1, 8) := by kernel_rfl
theorem way_first (w : World) (i k : Int) : (w.alloc (.cells #[.int .i64 i] 3)).ownsRow w.heap.size 3 1 (.slice (some ⟨w.heap.size, 0, none⟩) 1 1) 1 (wayV i k 1) := by
  rw [wayV_one]
  exact World.ownsRow_lit (base := w.heap.size) (e := 3) (size := 1) w #[.int .i64 i] 1 (Nat.le_refl _) (by decide) rfl
def WayOk (W : World) (i k : Int) (e : Ending) (w' : World) : Prop :=
  ∃ A c, e = .returned (.tuple #[.slice A (wayN i k + 1) c, .int .i64 0]) ∧ w'.ownsRow W.heap.size 3 1 (.slice A (wayN i k + 1) c) (wayN i k + 1) (wayV i k (wayN i k + 1)) ∧ Below W.heap.size W w'
set_option maxRecDepth 100000 in
set_option maxHeartbeats 8000000 in
theorem way_bad (i k : Int) (w : World) (h : (okP i && okP k) = false) : Calls Tryd.prog 21 #[.int .i64 i, .int .i64 k] w (fun e w' => e = .returned (.tuple #[.slice none 0 0, .int .i64 1]) ∧ w' = w) := by
  have P1 := Lib.hid (isPlace_any i w)
  have P2 := Lib.hid (isPlace_any k w)
  change Hid (Calls _ _ _ _ (fun e w' => e = .returned (.bool (okP i)) ∧ w' = w)) at P1
  change Hid (Calls _ _ _ _ (fun e w' => e = .returned (.bool (okP k)) ∧ w' = w)) at P2
  generalize okP i = p1 at *
  generalize okP k = p2 at *
  go_enter Tryd.func21, Tryd.ntmps21
  go_wp2_with fail
  refine P1.out.mono ?_
  rintro e w1 ⟨rfl, rfl⟩
  cases p1 with
  | false =>
    go_wp2_with fail
    go_ret2
    exact ⟨rfl, rfl⟩
  | true =>
    go_wp2_with fail
    refine P2.out.mono ?_
    rintro e w1 ⟨rfl, rfl⟩
    simp only [Bool.true_and] at h
    subst h
    go_wp2_with fail
    go_ret2
    exact ⟨rfl, rfl⟩
set_option maxRecDepth 100000 in
set_option maxHeartbeats 8000000 in
theorem refWay_bad (i k : Int) (w : World) (h : (okP i && okP k) = false) : Calls Tryd.prog 22 #[.int .i64 i, .int .i64 k] w (fun e w' => e = .returned (.tuple #[.slice none 0 0, .int .i64 1]) ∧ w' = w) := by
  have P1 := Lib.hid (there_any i w)
  have P2 := Lib.hid (there_any k w)
  change Hid (Calls _ _ _ _ (fun e w' => e = .returned (.bool (okP i)) ∧ w' = w)) at P1
  change Hid (Calls _ _ _ _ (fun e w' => e = .returned (.bool (okP k)) ∧ w' = w)) at P2
  generalize okP i = p1 at *
  generalize okP k = p2 at *
  go_enter Tryd.func22, Tryd.ntmps22
  go_wp2_with fail
  refine P1.out.mono ?_
  rintro e w1 ⟨rfl, rfl⟩
  cases p1 with
  | false =>
    go_wp2_with fail
    go_ret2
    exact ⟨rfl, rfl⟩
  | true =>
    go_wp2_with fail
    refine P2.out.mono ?_
    rintro e w1 ⟨rfl, rfl⟩
    simp only [Bool.true_and] at h
    subst h
    go_wp2_with fail
    go_ret2
    exact ⟨rfl, rfl⟩
set_option maxRecDepth 100000 in
set_option maxHeartbeats 8000000 in
theorem way_up (i k : Int) (w : World) (h1 : okP i = true) (h2 : okP k = true) (h3 : i ≤ k) : Calls Tryd.prog 21 #[.int .i64 i, .int .i64 k] w (fun e w' => WayOk w i k e w') := by
  have P1 := Lib.hid (isPlace_any i w)
  have P2 := Lib.hid (isPlace_any k w)
  change Hid (Calls _ _ _ _ (fun e w' => e = .returned (.bool (okP i)) ∧ w' = w)) at P1
  change Hid (Calls _ _ _ _ (fun e w' => e = .returned (.bool (okP k)) ∧ w' = w)) at P2
  rw [h1] at P1
  rw [h2] at P2
  obtain ⟨i1, i2⟩ := okP_t h1
  obtain ⟨k1, k2⟩ := okP_t h2
  have HW := Lib.hid (fun j => show wat i k j = i + (j : Int) by unfold wat; split <;> omega)
  have HN := Lib.hid (show wayN i k = (k - i).toNat by unfold wayN; congr 1; omega)
  unfold WayOk
  obtain ⟨n, hn⟩ : ∃ n, n = wayN i k := ⟨_, rfl⟩
  rw [← hn] at HN ⊢
  have hn2 : (n : Int) = k - i := by rw [HN.out]; omega
  clear HN hn h1 h2
  have HF := Lib.hid (fun V => way_first V i k)
  go_enter Tryd.func21, Tryd.ntmps21
  go_wp2_with fail
  refine P1.out.mono ?_
  rintro e w1 ⟨rfl, rfl⟩
  go_wp2_with fail
  refine P2.out.mono ?_
  rintro e w2 ⟨rfl, rfl⟩
  go_wp2_with fail
  go_loopw [7, 8] (fun v7 v8 wr => ∃ (j : Nat), j ≤ n ∧ v8 = .int .i64 (i + (j : Int)) ∧ Below w2.heap.size w2 wr ∧ ∃ A c, v7 = .slice A (j + 1) c ∧ wr.ownsRow w2.heap.size 3 1 (.slice A (j + 1) c) (j + 1) (wayV i k (j + 1))) (fun v7 _ _ => n + 1 - (match v7 with | .slice _ m _ => m | _ => 0))
  case atStart => exact ⟨0, by omega, by simp, grows' _ _, _, _, rfl, HF.out w2⟩
  case round =>
    obtain ⟨j, hj, rfl, hb, A, c, rfl, ho⟩ := hrel
    have HB := Lib.hid hb
    have HO := Lib.hid ho
    have hsz : w2.heap.size ≤ wr.heap.size := hb.size
    clear hb ho
    by_cases hlt : j < n
    · have d0 : (i + (j : Int) != k) = true := by simp; omega
      go_wp2_with (at_builtin; go_must (refine wpList_append_src rfl (.tmp 29) (.tmp 33) 40 rfl w2.heap.size 3 (.int .i64 0) 8 Tryd.underlying40 info_int rfl _ (j + 1) (wayV i k (j + 1)) rfl (own_belowK HO.out (grows' wr _)) _ 1 1 [.int .i64 (i + (j : Int) + 1)] rfl (src_new _ _ _) (by intro u hu; simp at hu; subst hu; rfl) (by omega) (by omega) (by simp; omega) ?_); intro v1 w3 hown1 hg1)
      rw [show ([.int .i64 (i + (j : Int) + 1)] : List Value) = [.int .i64 (wat i k (j + 1))] by rw [HW.out]; congr 2; omega, wayV_snoc] at hown1
      obtain ⟨A', c', rfl, _⟩ := own_src hown1
      have HB3 := Lib.hid (below_grown' HB.out hsz HO.out (Nat.le_refl _) hg1)
      go_roundw
      case rel => exact ⟨j + 1, by omega, by congr 1; omega, HB3.out, A', c', rfl, hown1⟩
      case measure => simp; omega
    · have d0 : (i + (j : Int) != k) = false := by simp; omega
      obtain rfl : n = j := by omega
      go_wp2_with fail
      go_ret2
      exact ⟨A, c, rfl, HO.out, HB.out⟩
set_option maxRecDepth 100000 in
set_option maxHeartbeats 8000000 in
theorem way_down (i k : Int) (w : World) (h1 : okP i = true) (h2 : okP k = true) (h3 : k < i) : Calls Tryd.prog 21 #[.int .i64 i, .int .i64 k] w (fun e w' => WayOk w i k e w') := by
  have P1 := Lib.hid (isPlace_any i w)
  have P2 := Lib.hid (isPlace_any k w)
  change Hid (Calls _ _ _ _ (fun e w' => e = .returned (.bool (okP i)) ∧ w' = w)) at P1
  change Hid (Calls _ _ _ _ (fun e w' => e = .returned (.bool (okP k)) ∧ w' = w)) at P2
  rw [h1] at P1
  rw [h2] at P2
  obtain ⟨i1, i2⟩ := okP_t h1
  obtain ⟨k1, k2⟩ := okP_t h2
  have HW := Lib.hid (fun j => show wat i k j = i - (j : Int) by unfold wat; split <;> omega)
  have HN := Lib.hid (show wayN i k = (i - k).toNat by unfold wayN; congr 1; omega)
  unfold WayOk
  obtain ⟨n, hn⟩ : ∃ n, n = wayN i k := ⟨_, rfl⟩
  rw [← hn] at HN ⊢
  have hn2 : (n : Int) = i - k := by rw [HN.out]; omega
  clear HN hn h1 h2
  have HF := Lib.hid (fun V => way_first V i k)
  go_enter Tryd.func21, Tryd.ntmps21
  go_wp2_with fail
  refine P1.out.mono ?_
  rintro e w1 ⟨rfl, rfl⟩
  go_wp2_with fail
  refine P2.out.mono ?_
  rintro e w2 ⟨rfl, rfl⟩
  go_wp2_with fail
  go_loopw [7, 8] (fun v7 v8 wr => ∃ (j : Nat), j ≤ n ∧ v8 = .int .i64 (i - (j : Int)) ∧ Below w2.heap.size w2 wr ∧ ∃ A c, v7 = .slice A (j + 1) c ∧ wr.ownsRow w2.heap.size 3 1 (.slice A (j + 1) c) (j + 1) (wayV i k (j + 1))) (fun v7 _ _ => n + 1 - (match v7 with | .slice _ m _ => m | _ => 0))
  case atStart => exact ⟨0, by omega, by simp, grows' _ _, _, _, rfl, HF.out w2⟩
  case round =>
    obtain ⟨j, hj, rfl, hb, A, c, rfl, ho⟩ := hrel
    have HB := Lib.hid hb
    have HO := Lib.hid ho
    have hsz : w2.heap.size ≤ wr.heap.size := hb.size
    clear hb ho
    by_cases hlt : j < n
    · have d0 : (i - (j : Int) != k) = true := by simp; omega
      go_wp2_with (at_builtin; go_must (refine wpList_append_src rfl (.tmp 29) (.tmp 33) 40 rfl w2.heap.size 3 (.int .i64 0) 8 Tryd.underlying40 info_int rfl _ (j + 1) (wayV i k (j + 1)) rfl (own_belowK HO.out (grows' wr _)) _ 1 1 [.int .i64 (i - (j : Int) + -1)] rfl (src_new _ _ _) (by intro u hu; simp at hu; subst hu; rfl) (by omega) (by omega) (by simp; omega) ?_); intro v1 w3 hown1 hg1)
      rw [show ([.int .i64 (i - (j : Int) + -1)] : List Value) = [.int .i64 (wat i k (j + 1))] by rw [HW.out]; congr 2; omega, wayV_snoc] at hown1
      obtain ⟨A', c', rfl, _⟩ := own_src hown1
      have HB3 := Lib.hid (below_grown' HB.out hsz HO.out (Nat.le_refl _) hg1)
      go_roundw
      case rel => exact ⟨j + 1, by omega, by congr 1; omega, HB3.out, A', c', rfl, hown1⟩
      case measure => simp; omega
    · have d0 : (i - (j : Int) != k) = false := by simp; omega
      obtain rfl : n = j := by omega
      go_wp2_with fail
      go_ret2
      exact ⟨A, c, rfl, HO.out, HB.out⟩
set_option maxRecDepth 100000 in
set_option maxHeartbeats 8000000 in
theorem refWay_up (i k : Int) (w : World) (h1 : okP i = true) (h2 : okP k = true) (h3 : i ≤ k) : Calls Tryd.prog 22 #[.int .i64 i, .int .i64 k] w (fun e w' => WayOk w i k e w') := by
  have P1 := Lib.hid (there_any i w)
  have P2 := Lib.hid (there_any k w)
  change Hid (Calls _ _ _ _ (fun e w' => e = .returned (.bool (okP i)) ∧ w' = w)) at P1
  change Hid (Calls _ _ _ _ (fun e w' => e = .returned (.bool (okP k)) ∧ w' = w)) at P2
  rw [h1] at P1
  rw [h2] at P2
  obtain ⟨i1, i2⟩ := okP_t h1
  obtain ⟨k1, k2⟩ := okP_t h2
  have HW := Lib.hid (fun j => show wat i k j = i + (j : Int) by unfold wat; split <;> omega)
  have HN := Lib.hid (show wayN i k = (k - i).toNat by unfold wayN; congr 1; omega)
  unfold WayOk
  obtain ⟨n, hn⟩ : ∃ n, n = wayN i k := ⟨_, rfl⟩
  rw [← hn] at HN ⊢
  have hn2 : (n : Int) = k - i := by rw [HN.out]; omega
  clear HN hn h1 h2
  have HF := Lib.hid (fun V => way_first V i k)
  go_enter Tryd.func22, Tryd.ntmps22
  go_wp2_with fail
  refine P1.out.mono ?_
  rintro e w1 ⟨rfl, rfl⟩
  go_wp2_with fail
  refine P2.out.mono ?_
  rintro e w2 ⟨rfl, rfl⟩
  go_wp2_with fail
  go_loopw [0, 6] (fun v8 v7 wr => ∃ (j : Nat), j ≤ n ∧ v8 = .int .i64 (i + (j : Int)) ∧ Below w2.heap.size w2 wr ∧ ∃ A c, v7 = .slice A (j + 1) c ∧ wr.ownsRow w2.heap.size 3 1 (.slice A (j + 1) c) (j + 1) (wayV i k (j + 1))) (fun _ v7 _ => n + 1 - (match v7 with | .slice _ m _ => m | _ => 0))
  case atStart => exact ⟨0, by omega, by simp, grows' _ _, _, _, rfl, HF.out w2⟩
  case round =>
    obtain ⟨j, hj, rfl, hb, A, c, rfl, ho⟩ := hrel
    have HB := Lib.hid hb
    have HO := Lib.hid ho
    have hsz : w2.heap.size ≤ wr.heap.size := hb.size
    clear hb ho
    by_cases hlt : j < n
    · have d0 : (i + (j : Int) != k) = true := by simp; omega
      go_wp2_with (at_builtin; go_must (refine wpList_append_src rfl (.tmp 27) (.tmp 29) 40 rfl w2.heap.size 3 (.int .i64 0) 8 Tryd.underlying40 info_int rfl _ (j + 1) (wayV i k (j + 1)) rfl (own_belowK HO.out (grows' wr _)) _ 1 1 [.int .i64 (i + (j : Int) + 1)] rfl (src_new _ _ _) (by intro u hu; simp at hu; subst hu; rfl) (by omega) (by omega) (by simp; omega) ?_); intro v1 w3 hown1 hg1)
      rw [show ([.int .i64 (i + (j : Int) + 1)] : List Value) = [.int .i64 (wat i k (j + 1))] by rw [HW.out]; congr 2; omega, wayV_snoc] at hown1
      obtain ⟨A', c', rfl, _⟩ := own_src hown1
      have HB3 := Lib.hid (below_grown' HB.out hsz HO.out (Nat.le_refl _) hg1)
      go_roundw
      case rel => exact ⟨j + 1, by omega, by congr 1; omega, HB3.out, A', c', rfl, hown1⟩
      case measure => simp; omega
    · have d0 : (i + (j : Int) != k) = false := by simp; omega
      obtain rfl : n = j := by omega
      go_wp2_with fail
      go_ret2
      exact ⟨A, c, rfl, HO.out, HB.out⟩
set_option maxRecDepth 100000 in
set_option maxHeartbeats 8000000 in
theorem refWay_down (i k : Int) (w : World) (h1 : okP i = true) (h2 : okP k = true) (h3 : k < i) : Calls Tryd.prog 22 #[.int .i64 i, .int .i64 k] w (fun e w' => WayOk w i k e w') := by
  have P1 := Lib.hid (there_any i w)
  have P2 := Lib.hid (there_any k w)
  change Hid (Calls _ _ _ _ (fun e w' => e = .returned (.bool (okP i)) ∧ w' = w)) at P1
  change Hid (Calls _ _ _ _ (fun e w' => e = .returned (.bool (okP k)) ∧ w' = w)) at P2
  rw [h1] at P1
  rw [h2] at P2
  obtain ⟨i1, i2⟩ := okP_t h1
  obtain ⟨k1, k2⟩ := okP_t h2
  have HW := Lib.hid (fun j => show wat i k j = i - (j : Int) by unfold wat; split <;> omega)
  have HN := Lib.hid (show wayN i k = (i - k).toNat by unfold wayN; congr 1; omega)
  unfold WayOk
  obtain ⟨n, hn⟩ : ∃ n, n = wayN i k := ⟨_, rfl⟩
  rw [← hn] at HN ⊢
  have hn2 : (n : Int) = i - k := by rw [HN.out]; omega
  clear HN hn h1 h2
  have HF := Lib.hid (fun V => way_first V i k)
  go_enter Tryd.func22, Tryd.ntmps22
  go_wp2_with fail
  refine P1.out.mono ?_
  rintro e w1 ⟨rfl, rfl⟩
  go_wp2_with fail
  refine P2.out.mono ?_
  rintro e w2 ⟨rfl, rfl⟩
  go_wp2_with fail
  go_loopw [0, 6] (fun v8 v7 wr => ∃ (j : Nat), j ≤ n ∧ v8 = .int .i64 (i - (j : Int)) ∧ Below w2.heap.size w2 wr ∧ ∃ A c, v7 = .slice A (j + 1) c ∧ wr.ownsRow w2.heap.size 3 1 (.slice A (j + 1) c) (j + 1) (wayV i k (j + 1))) (fun _ v7 _ => n + 1 - (match v7 with | .slice _ m _ => m | _ => 0))
  case atStart => exact ⟨0, by omega, by simp, grows' _ _, _, _, rfl, HF.out w2⟩
  case round =>
    obtain ⟨j, hj, rfl, hb, A, c, rfl, ho⟩ := hrel
    have HB := Lib.hid hb
    have HO := Lib.hid ho
    have hsz : w2.heap.size ≤ wr.heap.size := hb.size
    clear hb ho
    by_cases hlt : j < n
    · have d0 : (i - (j : Int) != k) = true := by simp; omega
      go_wp2_with (at_builtin; go_must (refine wpList_append_src rfl (.tmp 27) (.tmp 29) 40 rfl w2.heap.size 3 (.int .i64 0) 8 Tryd.underlying40 info_int rfl _ (j + 1) (wayV i k (j + 1)) rfl (own_belowK HO.out (grows' wr _)) _ 1 1 [.int .i64 (i - (j : Int) - 1)] rfl (src_new _ _ _) (by intro u hu; simp at hu; subst hu; rfl) (by omega) (by omega) (by simp; omega) ?_); intro v1 w3 hown1 hg1)
      rw [show ([.int .i64 (i - (j : Int) - 1)] : List Value) = [.int .i64 (wat i k (j + 1))] by rw [HW.out]; congr 2; omega, wayV_snoc] at hown1
      obtain ⟨A', c', rfl, _⟩ := own_src hown1
      have HB3 := Lib.hid (below_grown' HB.out hsz HO.out (Nat.le_refl _) hg1)
      go_roundw
      case rel => exact ⟨j + 1, by omega, by congr 1; omega, HB3.out, A', c', rfl, hown1⟩
      case measure => simp; omega
    · have d0 : (i - (j : Int) != k) = false := by simp; omega
      obtain rfl : n = j := by omega
      go_wp2_with fail
      go_ret2
      exact ⟨A, c, rfl, HO.out, HB.out⟩
end Go.Proofs.YtpoijmncdicdkaaDoor.Su
