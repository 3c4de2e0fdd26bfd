/- The plan against the document's, package by package: the law's planned. -/
import Derived.Test.YtnnaoneegeenkaaDoorRpE
import Derived.Test.YtnnaoneegeenkaaDoorRvG
import Derived.Deep.MidRow
namespace Go.Proofs.YtnnaoneegeenkaaDoor.Rp
open Go.ChangeShapes Go.WideShapes Go.ChangeAt Go.RowKit Own Ro Kc
open Kq (Fm FM FM_ok FamAt rdV famRow fm0 refAll_any sameTexts_any)

section
variable {P : Program} {md : Region.Mode} {ops : Array Oper} {Q : Exit → Act → World → Prop} {S : World → Prop}
/-- A whole struct is read. -/
theorem takeRow {i : Nat} {oi : Oper} {dst : Option Nat} {fuel : Nat} {listed : Array Bool} {a : Act} {w : World} (cs : List Value) (b : Nat) (ty : TypeId) (x : Operand) (d : TypeDesc) (hi : ops[i]? = some oi) (hd : oi.dst = dst)
    (hs : Region.noSelect ops = true) (hf : Region.free md ops listed i = true) (hr : (Region.ready md ops listed).contains i = true)
    (hQ : ∀ c a w, Q (.panic c) (a.put dst (.agg cs.toArray)) w → Q (.panic c) a w) (hw : Region.wanted oi (yielded ops a.tmps) = true) (ho : oi.op = .load ty x)
    (hx : a.eval x = .pointer (some ⟨b, 0, none⟩)) (hc : ∀ w, S w → w.rangeAt b 0 cs) (hu : P.underlying ty = some d) (hdr : d.isRow = true) (hi' : (P.info? ty).map (·.size) = some cs.length) (hS : S w)
    (h : wpAnyH P md ops Q S fuel (listed.setIfInBounds i true) (a.put dst (.agg cs.toArray)) w) : wpAnyH P md ops Q S (fuel + 1) listed a w := by
  subst hd
  exact wpAnyH_take hi hs hf hr hQ (yieldsIf_load_mid hw ty x ho b 0 hx cs d hc hu hdr hi') hS h
end
theorem path_name : ∀ k < 5, pathK k = (FM k).name := by decide +kernel
theorem pbox_ex (w : World) (nm : List UInt8) (i : Sl) (vv vi : Value) : ∃ w1, w.alloc (.cells #[.string (str nm), slV i, vv, .slice none 0 0, vi] 49) = w1 ∧ w.heap.size < w1.heap.size ∧ Below w.heap.size w w1 ∧ ∀ j u, ([.string (str nm), slV i, vv, .slice none 0 0, vi] : List Value)[j]? = some u → w1.cell? ⟨w.heap.size, j, none⟩ = some u :=
  ⟨_, rfl, by simp, grows' w _, fun j u hu => by
    rw [Lib.cell_of_heap (heap_alloc_new w _) j]
    simpa using hu⟩
theorem ex_all (a b : Int) (xa : Option Addr) (xn xc : Nat) : (#[.int .i64 a, .int .i64 b, .slice xa xn xc, .slice none 0 0, .slice none 0 0] : Array Value).all (·.oneCell') = true := by simp [Value.oneCell']
theorem ebox_ex (w : World) (a b : Int) (xa : Option Addr) (xn xc : Nat) : ∃ w1, w.alloc (.cells #[.int .i64 a, .int .i64 b, .slice xa xn xc, .slice none 0 0, .slice none 0 0] 80) = w1 ∧ w.heap.size < w1.heap.size ∧ Below w.heap.size w w1 ∧ ∀ j u, ([.int .i64 a, .int .i64 b, .slice xa xn xc, .slice none 0 0, .slice none 0 0] : List Value)[j]? = some u → w1.cell? ⟨w.heap.size, j, none⟩ = some u :=
  ⟨_, rfl, by simp, grows' w _, fun j u hu => by
    rw [Lib.cell_of_heap (heap_alloc_new w _) j]
    simpa using hu⟩
theorem st_small : ∀ k < 5, st0B k < 38 ∧ st1B k < 38 := by decide +kernel
theorem sameInit_x (b : Nat) (f : Fm) (r A : Sl) (w : World) (hlt : b < w.heap.size) (hs : ∀ j u, (stepR (f.at1 : Int) f.by1 f.g1)[j]? = some u → w.cell? ⟨b, j, none⟩ = some u) :
    Calls Tryd.prog 30 #[.slice (some ⟨b, 0, none⟩) 1 1, .agg (famRow f r A).toArray, .int .i64 1] w fun e w' => e = .returned (.bool true) ∧ Below w.heap.size w w' := by
  by_cases hg : f.g1 = []
  · exact sameInit_1 b f r A w hlt hg hs
  · exact sameInit_g b f r A w hlt hg hs
/-- What stands while a family is held against its package. -/
def SW (w6 : World) (be bx bp h k : Nat) (F : Fm) (r A x : Sl) (W : World) : Prop :=
  ((W.cell? ⟨be, 0, none⟩ = some (.int .i64 F.base) ∧ W.cell? ⟨be, 1, none⟩ = some (.int .i64 F.step)) ∧ (W.cell? ⟨be, 2, none⟩ = some (.slice x.1 x.2.1 x.2.2) ∧ W.cell? ⟨be, 3, none⟩ = some (.slice none 0 0)) ∧ W.cell? ⟨be, 4, none⟩ = some (.slice none 0 0)) ∧
  ((W.cell? ⟨bx, 2, none⟩ = some (.int .i64 F.base) ∧ W.cell? ⟨bx, 3, none⟩ = some (.int .i64 F.step)) ∧ W.cell? ⟨bx, 4, none⟩ = some (.slice r.1 r.2.1 r.2.2)) ∧
  (W.cell? ⟨bp, 4, none⟩ = some (.slice (some ⟨h + iniB k, 0, none⟩) 2 2) ∧ W.cell? ⟨h + iniB k, 0, none⟩ = some (.slice (some ⟨h + st0B k, 0, none⟩) 1 1) ∧ W.cell? ⟨h + iniB k, 1, none⟩ = some (.slice (some ⟨h + st1B k, 0, none⟩) 1 1)) ∧
  W.rangeAt bx 0 (famRow F r A) ∧ Below w6.heap.size w6 W
theorem impK_small : ∀ k < 6, (impK k).length ≤ 5 := by decide +kernel
set_option maxRecDepth 100000 in
set_option maxHeartbeats 16000000 in
theorem planned_any (w : World) : Calls Tryd.prog 7 #[] w (fun e w' => e = .returned (.bool true) ∧ Below w.heap.size w w') := by
  go_enter Tryd.func7, Tryd.ntmps7
  go_wp2_with fail
  refine (plan_any w).mono ?_
  rintro e w1 ⟨rfl, h1⟩
  have p1 : PlanAt w.heap.size w1 := by rw [h1]; exact planAt_new w
  have b1 : Below w.heap.size w w1 := by rw [h1]; exact allocs_below _ _
  clear h1
  have P1 := Lib.hid p1
  have B1 := Lib.hid b1
  have hs1 : w.heap.size < w1.heap.size := by have := p1.1; omega
  clear p1 b1
  go_wp2_with fail
  refine (refAll_any w1).mono ?_
  rintro e w2 ⟨ga, rfl, hall, hga, hga2, hb2⟩
  have HALL := Lib.hid (fun k (hk : k < 5) W (hW : Below w2.heap.size w2 W) => hall k hk w.heap.size W hs1 (Kp.below (Kp.refl w2) hW))
  have P2 := Lib.hid (P1.out.below' hb2)
  have B2 := Lib.hid (bt B1.out hb2)
  have HGA := Lib.hid hga2
  clear hall hb2 P1 B1 hga hga2 hs1
  have c0 := P2.out.cell 37 (by decide) rfl 25 rfl
  have c2 := P2.out.cell 37 (by decide) rfl 27 rfl
  have c4 := P2.out.cell 37 (by decide) rfl 29 rfl
  have q0 : ((⟨#[114, 111, 108, 108]⟩ : ByteArray).toList == (⟨#[114, 111, 108, 108]⟩ : ByteArray).toList) = true := by simp
  generalize hh : w.heap.size = h at *
  go_wp2_with fail
  go_quiet (fail)
  go_wp2_with fail
  clear c0 c2 c4 q0
  go_loopw [3] (fun v3 wr => ∃ k : Nat, k ≤ 6 ∧ v3 = .int .i64 (k : Nat) ∧ Below w2.heap.size w2 wr) (fun v3 _ => 6 - (RowKit.intOf v3).toNat)
  case atStart => exact ⟨0, by omega, rfl, below_dr (Below.refl _ _) _⟩
  case round =>
    obtain ⟨k, hk, rfl, hbw⟩ := hrel
    have BW := Lib.hid hbw
    clear hbw
    by_cases hlt : k < 6
    · have i1 : (0 : Int) ≤ (k : Int) := by omega
      have i2 : (k : Int) < 6 := by omega
      have HPA := Lib.hid (packAt (P2.out.below' BW.out) k hlt)
      have HCW := Lib.hid (fun W (hW : Below wr.heap.size wr W) => (have q := packAt (P2.out.below' (bt BW.out hW)) k hlt; And.intro (And.intro (And.intro q.path q.imps) q.funs) hW))
      have HIM := Lib.hid (fun W => imports_any k hlt W)
      unfold ImpPost at HIM
      have HST := Lib.hid (fun W A c (hW : Below wr.heap.size wr W) hA => sameTexts_any (impV h k).1 A (impV h k).2.2 c (impK k).length (impK k) W rfl (Nat.le_trans (impK_small k hlt) (by omega)) ((HPA.out.impn ▸ HPA.out.impc).below hW) hA)
      have HN : Hid (slV (impV h k) = .slice (impV h k).1 (impK k).length (impV h k).2.2) := Lib.hid (by unfold slV; rw [HPA.out.impn])
      simp only [HN.out] at HCW
      generalize str (pathK k) = X at HCW HIM
      generalize (impV h k).1 = ia at HCW HST
      generalize (impV h k).2.2 = ic at HCW HST
      generalize (impK k).length = n at HCW HST HIM
      clear HN HPA
      go_upto_region 8 with (fail)
      refine wp_region_noPanic ?_
      refine wp_region_held_drew (S := fun W : World => ((W.cell? ⟨h + 37, k * 5, none⟩ = some (.string X) ∧ W.cell? ⟨h + 37, k * 5 + 1, none⟩ = some (.slice ia n ic)) ∧ W.cell? ⟨h + 37, k * 5 + 3, none⟩ = some (.slice none 0 0)) ∧ Below wr.heap.size wr W) (by kernel_rfl) (HCW.out _ (below_dr (Below.refl _ _) 1)) (fun hHeld => ?_)
      first | (refine skipH (i := 0) (dst := some 40) rfl rfl (by kernel_rfl) (by kernel_rfl) (by kernel_rfl) (fun _ _ _ h => h) (by rfl) hHeld ?_) | (refine' takeH (i := 0) (dst := some 40) (v := _) rfl rfl (by kernel_rfl) (by kernel_rfl) (by kernel_rfl) (fun _ _ _ h => h) (by rfl) ?hy hHeld ?_; case hy => (intro w hSw; clear hSw; (first | done | go_simp); try with_reducible rfl)) | fail
      try simp only [Act.put, List.setIfInBounds_toArray, List.set_cons_zero, List.set_cons_succ]
      first | (refine skipH (i := 1) (dst := some 41) rfl rfl (by kernel_rfl) (by kernel_rfl) (by kernel_rfl) (fun _ _ _ h => h) (by rfl) hHeld ?_) | (refine' takeH (i := 1) (dst := some 41) (v := _) rfl rfl (by kernel_rfl) (by kernel_rfl) (by kernel_rfl) (fun _ _ _ h => h) (by rfl) ?hy hHeld ?_; case hy => (intro w hSw; clear hSw; (first | done | go_simp); try with_reducible rfl)) | fail
      try simp only [Act.put, List.setIfInBounds_toArray, List.set_cons_zero, List.set_cons_succ]
      first | (refine skipH (i := 2) (dst := some 42) rfl rfl (by kernel_rfl) (by kernel_rfl) (by kernel_rfl) (fun _ _ _ h => h) (by rfl) hHeld ?_) | (refine' takeH (i := 2) (dst := some 42) (v := _) rfl rfl (by kernel_rfl) (by kernel_rfl) (by kernel_rfl) (fun _ _ _ h => h) (by rfl) ?hy hHeld ?_; case hy => (intro w hSw; clear hSw; (first | done | go_simp); try with_reducible rfl)) | fail
      try simp only [Act.put, List.setIfInBounds_toArray, List.set_cons_zero, List.set_cons_succ]
      first | (refine skipH (i := 3) (dst := some 43) rfl rfl (by kernel_rfl) (by kernel_rfl) (by kernel_rfl) (fun _ _ _ h => h) (by rfl) hHeld ?_) | (refine' takeH (i := 3) (dst := some 43) (v := _) rfl rfl (by kernel_rfl) (by kernel_rfl) (by kernel_rfl) (fun _ _ _ h => h) (by rfl) ?hy hHeld ?_; case hy => (intro w hSw; clear hSw; (first | done | go_simp); try with_reducible rfl)) | fail
      try simp only [Act.put, List.setIfInBounds_toArray, List.set_cons_zero, List.set_cons_succ]
      first | (refine skipH (i := 4) (dst := some 44) rfl rfl (by kernel_rfl) (by kernel_rfl) (by kernel_rfl) (fun _ _ _ h => h) (by rfl) hHeld ?_) | (refine' takeH (i := 4) (dst := some 44) (v := _) rfl rfl (by kernel_rfl) (by kernel_rfl) (by kernel_rfl) (fun _ _ _ h => h) (by rfl) ?hy hHeld ?_; case hy => (intro w hSw; obtain ⟨⟨⟨_, _⟩, _⟩, _⟩ := hSw; (first | done | go_simp); try with_reducible rfl)) | fail
      try simp only [Act.put, List.setIfInBounds_toArray, List.set_cons_zero, List.set_cons_succ]
      first | (refine skipH (i := 5) (dst := some 45) rfl rfl (by kernel_rfl) (by kernel_rfl) (by kernel_rfl) (fun _ _ _ h => h) (by rfl) hHeld ?_) | (refine' takeH (i := 5) (dst := some 45) (v := _) rfl rfl (by kernel_rfl) (by kernel_rfl) (by kernel_rfl) (fun _ _ _ h => h) (by rfl) ?hy hHeld ?_; case hy => (intro w hSw; clear hSw; (first | done | go_simp); try with_reducible rfl)) | fail
      try simp only [Act.put, List.setIfInBounds_toArray, List.set_cons_zero, List.set_cons_succ]
      first | (refine skipH (i := 6) (dst := some 46) rfl rfl (by kernel_rfl) (by kernel_rfl) (by kernel_rfl) (fun _ _ _ h => h) (by rfl) hHeld ?_) | (refine' takeH (i := 6) (dst := some 46) (v := _) rfl rfl (by kernel_rfl) (by kernel_rfl) (by kernel_rfl) (fun _ _ _ h => h) (by rfl) ?hy hHeld ?_; case hy => (intro w hSw; clear hSw; (first | done | go_simp); try with_reducible rfl)) | fail
      try simp only [Act.put, List.setIfInBounds_toArray, List.set_cons_zero, List.set_cons_succ]
      first | (refine skipH (i := 7) (dst := some 47) rfl rfl (by kernel_rfl) (by kernel_rfl) (by kernel_rfl) (fun _ _ _ h => h) (by rfl) hHeld ?_) | (refine' takeH (i := 7) (dst := some 47) (v := _) rfl rfl (by kernel_rfl) (by kernel_rfl) (by kernel_rfl) (fun _ _ _ h => h) (by rfl) ?hy hHeld ?_; case hy => (intro w hSw; clear hSw; (first | done | go_simp); try with_reducible rfl)) | fail
      try simp only [Act.put, List.setIfInBounds_toArray, List.set_cons_zero, List.set_cons_succ]
      first | (refine skipH (i := 8) (dst := some 48) rfl rfl (by kernel_rfl) (by kernel_rfl) (by kernel_rfl) (fun _ _ _ h => h) (by rfl) hHeld ?_) | (refine' takeH (i := 8) (dst := some 48) (v := _) rfl rfl (by kernel_rfl) (by kernel_rfl) (by kernel_rfl) (fun _ _ _ h => h) (by rfl) ?hy hHeld ?_; case hy => (intro w hSw; clear hSw; (first | done | go_simp); try with_reducible rfl)) | fail
      try simp only [Act.put, List.setIfInBounds_toArray, List.set_cons_zero, List.set_cons_succ]
      first | (refine skipH (i := 9) (dst := some 49) rfl rfl (by kernel_rfl) (by kernel_rfl) (by kernel_rfl) (fun _ _ _ h => h) (by rfl) hHeld ?_) | (refine' takeH (i := 9) (dst := some 49) (v := _) rfl rfl (by kernel_rfl) (by kernel_rfl) (by kernel_rfl) (fun _ _ _ h => h) (by rfl) ?hy hHeld ?_; case hy => (intro w hSw; obtain ⟨⟨⟨_, _⟩, _⟩, _⟩ := hSw; (first | done | go_simp); try with_reducible rfl)) | fail
      try simp only [Act.put, List.setIfInBounds_toArray, List.set_cons_zero, List.set_cons_succ]
      refine wpAnyH_ready (rs := [10]) (by kernel_rfl) (by simp) ?_
      refine AllReadyH.cons (i := 10) (o := ⟨some 50, .call _, _, _, _, _⟩) rfl (fun K hK => ?_) AllReadyH.nil
      go_simp
      refine (HIM.out _).mono ?_
      rintro e w3 ⟨A3, c3, rfl, hc3, hb3⟩
      have B3 := Lib.hid (bt hHeld.2 hb3)
      have hH := HCW.out w3 B3.out
      have HS3 := Lib.hid (HST.out w3 A3 c3 B3.out hc3)
      clear hc3 hb3 HST HIM
      refine hK.out _ _ hH (fun _ => ?_)
      clear hK K hHeld
      have hHeld := hH
      clear hH
      try simp only [Act.put, List.setIfInBounds_toArray, List.set_cons_zero, List.set_cons_succ]
      refine wpAnyH_ready (rs := [11]) (by kernel_rfl) (by simp) ?_
      refine AllReadyH.cons (i := 11) (o := ⟨some 51, .call _, _, _, _, _⟩) rfl (fun K hK => ?_) AllReadyH.nil
      go_simp
      refine HS3.out.mono ?_
      rintro e w4 ⟨rfl, hb4⟩
      have B4 := Lib.hid (bt B3.out hb4)
      have hH := HCW.out w4 B4.out
      clear hb4 B3 HS3
      refine hK.out _ _ hH (fun _ => ?_)
      clear hK K hHeld
      have hHeld := hH
      clear hH
      try simp only [Act.put, List.setIfInBounds_toArray, List.set_cons_zero, List.set_cons_succ]
      first | (refine skipH (i := 12) (dst := some 52) rfl rfl (by kernel_rfl) (by kernel_rfl) (by kernel_rfl) (fun _ _ _ h => h) (by rfl) hHeld ?_) | (refine' takeH (i := 12) (dst := some 52) (v := _) rfl rfl (by kernel_rfl) (by kernel_rfl) (by kernel_rfl) (fun _ _ _ h => h) (by rfl) ?hy hHeld ?_; case hy => (intro w hSw; clear hSw; (first | done | go_simp); try with_reducible rfl)) | fail
      try simp only [Act.put, List.setIfInBounds_toArray, List.set_cons_zero, List.set_cons_succ]
      first | (refine skipH (i := 13) (dst := some 53) rfl rfl (by kernel_rfl) (by kernel_rfl) (by kernel_rfl) (fun _ _ _ h => h) (by rfl) hHeld ?_) | (refine' takeH (i := 13) (dst := some 53) (v := _) rfl rfl (by kernel_rfl) (by kernel_rfl) (by kernel_rfl) (fun _ _ _ h => h) (by rfl) ?hy hHeld ?_; case hy => (intro w hSw; clear hSw; (first | done | go_simp); try with_reducible rfl)) | fail
      try simp only [Act.put, List.setIfInBounds_toArray, List.set_cons_zero, List.set_cons_succ]
      first | (refine skipH (i := 14) (dst := some 54) rfl rfl (by kernel_rfl) (by kernel_rfl) (by kernel_rfl) (fun _ _ _ h => h) (by rfl) hHeld ?_) | (refine' takeH (i := 14) (dst := some 54) (v := _) rfl rfl (by kernel_rfl) (by kernel_rfl) (by kernel_rfl) (fun _ _ _ h => h) (by rfl) ?hy hHeld ?_; case hy => (intro w hSw; clear hSw; (first | done | go_simp); try with_reducible rfl)) | fail
      try simp only [Act.put, List.setIfInBounds_toArray, List.set_cons_zero, List.set_cons_succ]
      first | (refine skipH (i := 15) (dst := some 55) rfl rfl (by kernel_rfl) (by kernel_rfl) (by kernel_rfl) (fun _ _ _ h => h) (by rfl) hHeld ?_) | (refine' takeH (i := 15) (dst := some 55) (v := _) rfl rfl (by kernel_rfl) (by kernel_rfl) (by kernel_rfl) (fun _ _ _ h => h) (by rfl) ?hy hHeld ?_; case hy => (intro w hSw; clear hSw; (first | done | go_simp); try with_reducible rfl)) | fail
      try simp only [Act.put, List.setIfInBounds_toArray, List.set_cons_zero, List.set_cons_succ]
      first | (refine skipH (i := 16) (dst := some 56) rfl rfl (by kernel_rfl) (by kernel_rfl) (by kernel_rfl) (fun _ _ _ h => h) (by rfl) hHeld ?_) | (refine' takeH (i := 16) (dst := some 56) (v := _) rfl rfl (by kernel_rfl) (by kernel_rfl) (by kernel_rfl) (fun _ _ _ h => h) (by rfl) ?hy hHeld ?_; case hy => (intro w hSw; clear hSw; (first | done | go_simp); try with_reducible rfl)) | fail
      try simp only [Act.put, List.setIfInBounds_toArray, List.set_cons_zero, List.set_cons_succ]
      first | (refine skipH (i := 17) (dst := some 57) rfl rfl (by kernel_rfl) (by kernel_rfl) (by kernel_rfl) (fun _ _ _ h => h) (by rfl) hHeld ?_) | (refine' takeH (i := 17) (dst := some 57) (v := _) rfl rfl (by kernel_rfl) (by kernel_rfl) (by kernel_rfl) (fun _ _ _ h => h) (by rfl) ?hy hHeld ?_; case hy => (intro w hSw; clear hSw; (first | done | go_simp); try with_reducible rfl)) | fail
      try simp only [Act.put, List.setIfInBounds_toArray, List.set_cons_zero, List.set_cons_succ]
      first | (refine skipH (i := 18) (dst := some 58) rfl rfl (by kernel_rfl) (by kernel_rfl) (by kernel_rfl) (fun _ _ _ h => h) (by rfl) hHeld ?_) | (refine' takeH (i := 18) (dst := some 58) (v := _) rfl rfl (by kernel_rfl) (by kernel_rfl) (by kernel_rfl) (fun _ _ _ h => h) (by rfl) ?hy hHeld ?_; case hy => (intro w hSw; obtain ⟨⟨⟨_, _⟩, _⟩, _⟩ := hSw; (first | done | go_simp); try with_reducible rfl)) | fail
      try simp only [Act.put, List.setIfInBounds_toArray, List.set_cons_zero, List.set_cons_succ]
      first | (refine skipH (i := 19) (dst := some 59) rfl rfl (by kernel_rfl) (by kernel_rfl) (by kernel_rfl) (fun _ _ _ h => h) (by rfl) hHeld ?_) | (refine' takeH (i := 19) (dst := some 59) (v := _) rfl rfl (by kernel_rfl) (by kernel_rfl) (by kernel_rfl) (fun _ _ _ h => h) (by rfl) ?hy hHeld ?_; case hy => (intro w hSw; clear hSw; (first | done | go_simp); try with_reducible rfl)) | fail
      try simp only [Act.put, List.setIfInBounds_toArray, List.set_cons_zero, List.set_cons_succ]
      first | (refine skipH (i := 20) (dst := some 60) rfl rfl (by kernel_rfl) (by kernel_rfl) (by kernel_rfl) (fun _ _ _ h => h) (by rfl) hHeld ?_) | (refine' takeH (i := 20) (dst := some 60) (v := _) rfl rfl (by kernel_rfl) (by kernel_rfl) (by kernel_rfl) (fun _ _ _ h => h) (by rfl) ?hy hHeld ?_; case hy => (intro w hSw; clear hSw; (first | done | go_simp); try with_reducible rfl)) | fail
      try simp only [Act.put, List.setIfInBounds_toArray, List.set_cons_zero, List.set_cons_succ]
      first | (refine skipH (i := 21) (dst := some 61) rfl rfl (by kernel_rfl) (by kernel_rfl) (by kernel_rfl) (fun _ _ _ h => h) (by rfl) hHeld ?_) | (refine' takeH (i := 21) (dst := some 61) (v := _) rfl rfl (by kernel_rfl) (by kernel_rfl) (by kernel_rfl) (fun _ _ _ h => h) (by rfl) ?hy hHeld ?_; case hy => (intro w hSw; clear hSw; (first | done | go_simp); try with_reducible rfl)) | fail
      try simp only [Act.put, List.setIfInBounds_toArray, List.set_cons_zero, List.set_cons_succ]
      refine wpAnyH_done (by kernel_rfl) (NoPanic.normal ?_) _
      clear hHeld
      go_wp2_with fail
      go_roundw
      case rel => exact ⟨k + 1, by omega, by go_num, bt BW.out B4.out⟩
      case measure => simp [RowKit.intOf]; omega
    · obtain rfl : k = 6 := by omega
      go_wp2_with fail
      generalize ((6 : Nat) : Int) = i6
      go_loopw [4, 5, 6, 7] (fun v4 _ _ _ wz => ∃ k : Nat, k ≤ 5 ∧ v4 = .int .i64 (k : Nat) ∧ Below w2.heap.size w2 wz) (fun v4 _ _ _ _ => 5 - (RowKit.intOf v4).toNat)
      case atStart => exact ⟨0, by omega, rfl, BW.out⟩
      case round =>
        clear BW
        obtain ⟨k, hk, rfl, hbw⟩ := hrel
        have BW := Lib.hid hbw
        clear hbw
        by_cases hlt : k < 5
        · have i1 : (0 : Int) ≤ (k : Int) := by omega
          have i2 : (k : Int) < 5 := by omega
          obtain ⟨r, A, R, hfa, _⟩ := HALL.out k hlt wr BW.out
          have HFA := Lib.hid hfa
          have HOK := Lib.hid (FM_ok k hlt)
          have HPN := Lib.hid (path_name k hlt)
          have HPW := Lib.hid (fun W (hW : Below wr.heap.size wr W) => packAt (P2.out.below' (bt BW.out hW)) k (by omega))
          have HFW := Lib.hid (fun W (hW : Below wr.heap.size wr W) => famPack (P2.out.below' (bt BW.out hW)) k hlt)
          have e0 := hfa.row 0 _ rfl
          have e1 := hfa.row 1 _ rfl
          have e2 := hfa.row 2 _ rfl
          have e3 := hfa.row 3 _ rfl
          have e4 := hfa.row 4 _ rfl
          have e5 := hfa.row 5 _ rfl
          have e6 := hfa.row 6 _ rfl
          have e7 := hfa.row 7 _ rfl
          have e8 := hfa.row 8 _ rfl
          have e9 := hfa.row 9 _ rfl
          have e10 := hfa.row 10 _ rfl
          have e11 := hfa.row 11 _ rfl
          rw [Nat.add_zero] at e0
          clear hfa
          obtain ⟨ra, rn, rc⟩ := r
          obtain ⟨Aa, An, Ac⟩ := A
          simp only [slV] at e4 e11
          have hrn : rn = (FM k).reads.length := HFA.out.rn
          subst hrn
          obtain ⟨w3, hw3, hlt3, hb3, hbx3⟩ := fbox_ex wr (FM k) (ra, (FM k).reads.length, rc) (Aa, An, Ac)
          simp only [slV] at hw3
          have B3 := Lib.hid hb3
          have HX3 := Lib.hid hbx3
          have HW3 := Lib.hid hw3
          clear hw3 hb3 hbx3
          go_upto_region 14 with (fail)
          rw [HW3.out]
          clear e0 e1 e2 e3 e4 e5 e6 e7 e8 e9 e10 e11 HW3
          have pa := HPW.out w3 B3.out
          have fp := HFW.out w3 B3.out
          have g0 := pa.path
          have g1 := pa.imps
          have g2 := fp.vars
          have g3 := pa.funs
          have g4 := fp.inis
          rw [HPN.out] at g0
          clear pa fp
          generalize impV h k = iv at g1
          obtain ⟨ia, inn, ic⟩ := iv
          simp only [slV] at g1
          generalize wr.heap.size = bx at hlt3 HX3 ⊢
          obtain ⟨w4, hw4, hlt4, hb4, hbx4⟩ := pbox_ex w3 (FM k).name (ia, inn, ic) (.slice (some ⟨h + varB k, 0, none⟩) 1 1) (.slice (some ⟨h + iniB k, 0, none⟩) 2 2)
          simp only [slV] at hw4 hbx4
          have B4 := Lib.hid hb4
          have HW4 := Lib.hid hw4
          have HX4 := Lib.hid hbx4
          clear hw4 hb4 hbx4
          go_upto_region 15 with (fail)
          rw [HW4.out]
          clear g0 g1 g2 g3 g4 HW4
          have HX3' := Lib.hid (fun W (hW : Below w4.heap.size w4 W) j u hu => ((bt B4.out hW).cell (p := ⟨bx, j, none⟩) hlt3).trans (HX3.out j u hu))
          have HX4' := Lib.hid (fun W (hW : Below w4.heap.size w4 W) j u hu => (hW.cell (p := ⟨w3.heap.size, j, none⟩) hlt4).trans (HX4.out j u hu))
          clear HX3 HX4
          generalize w3.heap.size = bp at HX4' ⊢
          have FPD := HFW.out w4 (bt B3.out B4.out)
          have a0 : w4.cell? ⟨bp, 0, none⟩ = _ := HX4'.out w4 (Below.refl _ _) 0 _ rfl
          have a2 : w4.cell? ⟨bp, 2, none⟩ = _ := HX4'.out w4 (Below.refl _ _) 2 _ rfl
          have a4 : w4.cell? ⟨bp, 4, none⟩ = _ := HX4'.out w4 (Below.refl _ _) 4 _ rfl
          have b0 : w4.cell? ⟨bx, 0, none⟩ = some (.string (str (FM k).name)) := HX3'.out w4 (Below.refl _ _) 0 _ rfl
          have b1 : w4.cell? ⟨bx, 1, none⟩ = some (.int .i64 ((FM k).len : Int)) := HX3'.out w4 (Below.refl _ _) 1 _ rfl
          have v0 := FPD.vnam
          have v1 := FPD.vlen
          have qX : ((str (FM k).name).toList == (str (FM k).name).toList) = true := by simp
          have qt : (tableS.toList == tableS.toList) = true := by simp
          clear FPD
          go_quiet (fail)
          go_upto_region 17 with (fail)
          generalize hwq : w4.drewN nq = wq
          have B5 : Below w4.heap.size w4 wq := hwq ▸ below_dr (Below.refl _ _) nq
          clear hwq a0 a2 a4 b0 b1 v0 v1
          have FPD := HFW.out wq (bt B3.out (bt B4.out B5))
          have a2 : wq.cell? ⟨bp, 2, none⟩ = _ := HX4'.out wq B5 2 _ rfl
          have v2 := FPD.vbas
          have v3 := FPD.vstp
          have v4 := FPD.vrds
          have v5 := FPD.vcal
          have v6 := FPD.vhid
          have HRD := Lib.hid (And.intro FPD.rdn FPD.rdc)
          generalize rdA h k = rv at v4 HRD
          obtain ⟨xa, xn, xc⟩ := rv
          simp only [slV] at v4
          dsimp only at HRD
          obtain rfl : xn = (FM k).reads.length := HRD.out.1
          clear FPD
          replace B5 := Lib.hid B5
          go_upto_region 18 with ((with_reducible (show wpList _ _ _ ((⟨none, .store _ _ _, _, _, _, _⟩ : Oper) :: _) _ _)); refine Rm.wpList_store_new (w := wq) (op := ⟨none, .store 80 (.tmp 7) (.tmp 115), _, _, _, _⟩) rfl 80 (.tmp 7) (.tmp 115) rfl #[.int .i64 0, .int .i64 0, .slice none 0 0, .slice none 0 0, .slice none 0 0] #[.int .i64 (FM k).base, .int .i64 (FM k).step, .slice xa (FM k).reads.length xc, .slice none 0 0, .slice none 0 0] rfl rfl (by kernel_rfl) rfl (by simp [Value.oneCell']) ?_)
          clear a2 v2 v3 v4 v5 v6
          obtain ⟨w6, hw6, hlt6, hb6, hbx6⟩ := ebox_ex wq (FM k).base (FM k).step xa (FM k).reads.length xc
          rw [hw6]
          clear hw6
          have HSR := Lib.hid (fun W (hW : Below w6.heap.size w6 W) => sameReads_any xa ra xc rc (FM k).reads.length (FM k).reads W rfl (Nat.le_trans HOK.out.2.2.2.2.1 (by omega)) ((HRD.out.2.below hb6).below hW) (((((HFA.out.rc.below B3.out).below B4.out).below B5.out).below hb6).below hW))
          have HHS : Hid (∀ i, i < 38 → h + i < wr.heap.size) := Lib.hid (fun i hi => by have := (P2.out.below' BW.out).1; omega)
          have HS0 := Lib.hid (fun W (hW : Below wr.heap.size wr W) => sameInit_0 (h + st0B k) (FM k) (ra, (FM k).reads.length, rc) (Aa, An, Ac) W (Nat.lt_of_lt_of_le (HHS.out _ (st_small k hlt).1) hW.size) HOK.out.2.2.2.2.2.1 (HFW.out W hW).stp0)
          have HS1 := Lib.hid (fun W (hW : Below wr.heap.size wr W) => sameInit_x (h + st1B k) (FM k) (ra, (FM k).reads.length, rc) (Aa, An, Ac) W (Nat.lt_of_lt_of_le (HHS.out _ (st_small k hlt).2) hW.size) (HFW.out W hW).stp1)
          have B6 := Lib.hid (bt B3.out (bt B4.out (bt B5.out hb6)))
          have HCW : Hid (∀ W, Below w6.heap.size w6 W → SW w6 wq.heap.size bx bp h k (FM k) (ra, (FM k).reads.length, rc) (Aa, An, Ac) (xa, (FM k).reads.length, xc) W) := Lib.hid (fun W hW => by
            have q6 := fun j u hu => (hW.cell (p := ⟨wq.heap.size, j, none⟩) hlt6).trans (hbx6 j u hu)
            have q3 := HX3'.out W (bt B5.out (bt hb6 hW))
            have q4 := HX4'.out W (bt B5.out (bt hb6 hW))
            have fp := HFW.out W (bt B6.out hW)
            exact ⟨⟨⟨q6 0 _ rfl, q6 1 _ rfl⟩, ⟨q6 2 _ rfl, q6 3 _ rfl⟩, q6 4 _ rfl⟩, ⟨⟨q3 2 _ rfl, q3 3 _ rfl⟩, q3 4 _ rfl⟩, ⟨q4 4 _ rfl, fp.ini0, fp.ini1⟩, ⟨fun j v hv => by rw [Nat.zero_add]; exact q3 j v hv, hW⟩⟩)
          generalize wq.heap.size = be at HCW ⊢
          clear hbx6 hlt6 HHS HRD HX3' HX4' HFW HPW HOK
          refine wp_region_noPanic ?_
          refine wp_region_held_drew (S := SW w6 be bx bp h k (FM k) (ra, (FM k).reads.length, rc) (Aa, An, Ac) (xa, (FM k).reads.length, xc)) (by kernel_rfl) (HCW.out _ (below_dr (Below.refl _ _) 1)) (fun hHeld => ?_)
          first | (refine skipH (i := 0) (dst := some 116) rfl rfl (by kernel_rfl) (by kernel_rfl) (by kernel_rfl) (fun _ _ _ h => h) (by rfl) hHeld ?_) | (refine' takeH (i := 0) (dst := some 116) (v := _) rfl rfl (by kernel_rfl) (by kernel_rfl) (by kernel_rfl) (fun _ _ _ h => h) (by rfl) ?hy hHeld ?_; case hy => (intro w hSw; clear hSw; (first | done | go_simp); try with_reducible rfl)) | fail
          try simp only [Act.put, List.setIfInBounds_toArray, List.set_cons_zero, List.set_cons_succ]
          first | (refine skipH (i := 1) (dst := some 117) rfl rfl (by kernel_rfl) (by kernel_rfl) (by kernel_rfl) (fun _ _ _ h => h) (by rfl) hHeld ?_) | (refine' takeH (i := 1) (dst := some 117) (v := _) rfl rfl (by kernel_rfl) (by kernel_rfl) (by kernel_rfl) (fun _ _ _ h => h) (by rfl) ?hy hHeld ?_; case hy => (intro w hSw; obtain ⟨⟨⟨_, _⟩, ⟨_, _⟩, _⟩, ⟨⟨_, _⟩, _⟩, ⟨_, _, _⟩, _⟩ := hSw; (first | done | go_simp); try with_reducible rfl)) | fail
          try simp only [Act.put, List.setIfInBounds_toArray, List.set_cons_zero, List.set_cons_succ]
          first | (refine skipH (i := 2) (dst := some 118) rfl rfl (by kernel_rfl) (by kernel_rfl) (by kernel_rfl) (fun _ _ _ h => h) (by rfl) hHeld ?_) | (refine' takeH (i := 2) (dst := some 118) (v := _) rfl rfl (by kernel_rfl) (by kernel_rfl) (by kernel_rfl) (fun _ _ _ h => h) (by rfl) ?hy hHeld ?_; case hy => (intro w hSw; clear hSw; (first | done | go_simp); try with_reducible rfl)) | fail
          try simp only [Act.put, List.setIfInBounds_toArray, List.set_cons_zero, List.set_cons_succ]
          first | (refine skipH (i := 3) (dst := some 119) rfl rfl (by kernel_rfl) (by kernel_rfl) (by kernel_rfl) (fun _ _ _ h => h) (by rfl) hHeld ?_) | (refine' takeH (i := 3) (dst := some 119) (v := _) rfl rfl (by kernel_rfl) (by kernel_rfl) (by kernel_rfl) (fun _ _ _ h => h) (by rfl) ?hy hHeld ?_; case hy => (intro w hSw; obtain ⟨⟨⟨_, _⟩, ⟨_, _⟩, _⟩, ⟨⟨_, _⟩, _⟩, ⟨_, _, _⟩, _⟩ := hSw; (first | done | go_simp); try with_reducible rfl)) | fail
          try simp only [Act.put, List.setIfInBounds_toArray, List.set_cons_zero, List.set_cons_succ]
          first | (refine skipH (i := 4) (dst := some 120) rfl rfl (by kernel_rfl) (by kernel_rfl) (by kernel_rfl) (fun _ _ _ h => h) (by rfl) hHeld ?_) | (refine' takeH (i := 4) (dst := some 120) (v := _) rfl rfl (by kernel_rfl) (by kernel_rfl) (by kernel_rfl) (fun _ _ _ h => h) (by rfl) ?hy hHeld ?_; case hy => (intro w hSw; clear hSw; (first | done | go_simp); try with_reducible rfl)) | fail
          try simp only [Act.put, List.setIfInBounds_toArray, List.set_cons_zero, List.set_cons_succ]
          first | (refine skipH (i := 5) (dst := some 121) rfl rfl (by kernel_rfl) (by kernel_rfl) (by kernel_rfl) (fun _ _ _ h => h) (by rfl) hHeld ?_) | (refine' takeH (i := 5) (dst := some 121) (v := _) rfl rfl (by kernel_rfl) (by kernel_rfl) (by kernel_rfl) (fun _ _ _ h => h) (by rfl) ?hy hHeld ?_; case hy => (intro w hSw; clear hSw; (first | done | go_simp); try with_reducible rfl)) | fail
          try simp only [Act.put, List.setIfInBounds_toArray, List.set_cons_zero, List.set_cons_succ]
          first | (refine skipH (i := 6) (dst := some 122) rfl rfl (by kernel_rfl) (by kernel_rfl) (by kernel_rfl) (fun _ _ _ h => h) (by rfl) hHeld ?_) | (refine' takeH (i := 6) (dst := some 122) (v := _) rfl rfl (by kernel_rfl) (by kernel_rfl) (by kernel_rfl) (fun _ _ _ h => h) (by rfl) ?hy hHeld ?_; case hy => (intro w hSw; clear hSw; (first | done | go_simp); try with_reducible rfl)) | fail
          try simp only [Act.put, List.setIfInBounds_toArray, List.set_cons_zero, List.set_cons_succ]
          first | (refine skipH (i := 7) (dst := some 123) rfl rfl (by kernel_rfl) (by kernel_rfl) (by kernel_rfl) (fun _ _ _ h => h) (by rfl) hHeld ?_) | (refine' takeH (i := 7) (dst := some 123) (v := _) rfl rfl (by kernel_rfl) (by kernel_rfl) (by kernel_rfl) (fun _ _ _ h => h) (by rfl) ?hy hHeld ?_; case hy => (intro w hSw; obtain ⟨⟨⟨_, _⟩, ⟨_, _⟩, _⟩, ⟨⟨_, _⟩, _⟩, ⟨_, _, _⟩, _⟩ := hSw; (first | done | go_simp); try with_reducible rfl)) | fail
          try simp only [Act.put, List.setIfInBounds_toArray, List.set_cons_zero, List.set_cons_succ]
          first | (refine skipH (i := 8) (dst := some 124) rfl rfl (by kernel_rfl) (by kernel_rfl) (by kernel_rfl) (fun _ _ _ h => h) (by rfl) hHeld ?_) | (refine' takeH (i := 8) (dst := some 124) (v := _) rfl rfl (by kernel_rfl) (by kernel_rfl) (by kernel_rfl) (fun _ _ _ h => h) (by rfl) ?hy hHeld ?_; case hy => (intro w hSw; clear hSw; (first | done | go_simp); try with_reducible rfl)) | fail
          try simp only [Act.put, List.setIfInBounds_toArray, List.set_cons_zero, List.set_cons_succ]
          first | (refine skipH (i := 9) (dst := some 125) rfl rfl (by kernel_rfl) (by kernel_rfl) (by kernel_rfl) (fun _ _ _ h => h) (by rfl) hHeld ?_) | (refine' takeH (i := 9) (dst := some 125) (v := _) rfl rfl (by kernel_rfl) (by kernel_rfl) (by kernel_rfl) (fun _ _ _ h => h) (by rfl) ?hy hHeld ?_; case hy => (intro w hSw; obtain ⟨⟨⟨_, _⟩, ⟨_, _⟩, _⟩, ⟨⟨_, _⟩, _⟩, ⟨_, _, _⟩, _⟩ := hSw; (first | done | go_simp); try with_reducible rfl)) | fail
          try simp only [Act.put, List.setIfInBounds_toArray, List.set_cons_zero, List.set_cons_succ]
          first | (refine skipH (i := 10) (dst := some 126) rfl rfl (by kernel_rfl) (by kernel_rfl) (by kernel_rfl) (fun _ _ _ h => h) (by rfl) hHeld ?_) | (refine' takeH (i := 10) (dst := some 126) (v := _) rfl rfl (by kernel_rfl) (by kernel_rfl) (by kernel_rfl) (fun _ _ _ h => h) (by rfl) ?hy hHeld ?_; case hy => (intro w hSw; clear hSw; (first | done | go_simp); try with_reducible rfl)) | fail
          try simp only [Act.put, List.setIfInBounds_toArray, List.set_cons_zero, List.set_cons_succ]
          first | (refine skipH (i := 11) (dst := some 127) rfl rfl (by kernel_rfl) (by kernel_rfl) (by kernel_rfl) (fun _ _ _ h => h) (by rfl) hHeld ?_) | (refine' takeH (i := 11) (dst := some 127) (v := _) rfl rfl (by kernel_rfl) (by kernel_rfl) (by kernel_rfl) (fun _ _ _ h => h) (by rfl) ?hy hHeld ?_; case hy => (intro w hSw; clear hSw; (first | done | go_simp); try with_reducible rfl)) | fail
          try simp only [Act.put, List.setIfInBounds_toArray, List.set_cons_zero, List.set_cons_succ]
          first | (refine skipH (i := 12) (dst := some 128) rfl rfl (by kernel_rfl) (by kernel_rfl) (by kernel_rfl) (fun _ _ _ h => h) (by rfl) hHeld ?_) | (refine' takeH (i := 12) (dst := some 128) (v := _) rfl rfl (by kernel_rfl) (by kernel_rfl) (by kernel_rfl) (fun _ _ _ h => h) (by rfl) ?hy hHeld ?_; case hy => (intro w hSw; clear hSw; (first | done | go_simp); try with_reducible rfl)) | fail
          try simp only [Act.put, List.setIfInBounds_toArray, List.set_cons_zero, List.set_cons_succ]
          first | (refine skipH (i := 13) (dst := some 129) rfl rfl (by kernel_rfl) (by kernel_rfl) (by kernel_rfl) (fun _ _ _ h => h) (by rfl) hHeld ?_) | (refine' takeH (i := 13) (dst := some 129) (v := _) rfl rfl (by kernel_rfl) (by kernel_rfl) (by kernel_rfl) (fun _ _ _ h => h) (by rfl) ?hy hHeld ?_; case hy => (intro w hSw; clear hSw; (first | done | go_simp); try with_reducible rfl)) | fail
          try simp only [Act.put, List.setIfInBounds_toArray, List.set_cons_zero, List.set_cons_succ]
          first | (refine skipH (i := 14) (dst := some 130) rfl rfl (by kernel_rfl) (by kernel_rfl) (by kernel_rfl) (fun _ _ _ h => h) (by rfl) hHeld ?_) | (refine' takeH (i := 14) (dst := some 130) (v := _) rfl rfl (by kernel_rfl) (by kernel_rfl) (by kernel_rfl) (fun _ _ _ h => h) (by rfl) ?hy hHeld ?_; case hy => (intro w hSw; obtain ⟨⟨⟨_, _⟩, ⟨_, _⟩, _⟩, ⟨⟨_, _⟩, _⟩, ⟨_, _, _⟩, _⟩ := hSw; (first | done | go_simp); try with_reducible rfl)) | fail
          try simp only [Act.put, List.setIfInBounds_toArray, List.set_cons_zero, List.set_cons_succ]
          first | (refine skipH (i := 15) (dst := some 131) rfl rfl (by kernel_rfl) (by kernel_rfl) (by kernel_rfl) (fun _ _ _ h => h) (by rfl) hHeld ?_) | (refine' takeH (i := 15) (dst := some 131) (v := _) rfl rfl (by kernel_rfl) (by kernel_rfl) (by kernel_rfl) (fun _ _ _ h => h) (by rfl) ?hy hHeld ?_; case hy => (intro w hSw; clear hSw; (first | done | go_simp); try with_reducible rfl)) | fail
          try simp only [Act.put, List.setIfInBounds_toArray, List.set_cons_zero, List.set_cons_succ]
          first | (refine skipH (i := 16) (dst := some 132) rfl rfl (by kernel_rfl) (by kernel_rfl) (by kernel_rfl) (fun _ _ _ h => h) (by rfl) hHeld ?_) | (refine' takeH (i := 16) (dst := some 132) (v := _) rfl rfl (by kernel_rfl) (by kernel_rfl) (by kernel_rfl) (fun _ _ _ h => h) (by rfl) ?hy hHeld ?_; case hy => (intro w hSw; clear hSw; (first | done | go_simp); try with_reducible rfl)) | fail
          try simp only [Act.put, List.setIfInBounds_toArray, List.set_cons_zero, List.set_cons_succ]
          first | (refine skipH (i := 17) (dst := some 133) rfl rfl (by kernel_rfl) (by kernel_rfl) (by kernel_rfl) (fun _ _ _ h => h) (by rfl) hHeld ?_) | (refine' takeH (i := 17) (dst := some 133) (v := _) rfl rfl (by kernel_rfl) (by kernel_rfl) (by kernel_rfl) (fun _ _ _ h => h) (by rfl) ?hy hHeld ?_; case hy => (intro w hSw; clear hSw; (first | done | go_simp); try with_reducible rfl)) | fail
          try simp only [Act.put, List.setIfInBounds_toArray, List.set_cons_zero, List.set_cons_succ]
          first | (refine skipH (i := 18) (dst := some 134) rfl rfl (by kernel_rfl) (by kernel_rfl) (by kernel_rfl) (fun _ _ _ h => h) (by rfl) hHeld ?_) | (refine' takeH (i := 18) (dst := some 134) (v := _) rfl rfl (by kernel_rfl) (by kernel_rfl) (by kernel_rfl) (fun _ _ _ h => h) (by rfl) ?hy hHeld ?_; case hy => (intro w hSw; clear hSw; (first | done | go_simp); try with_reducible rfl)) | fail
          try simp only [Act.put, List.setIfInBounds_toArray, List.set_cons_zero, List.set_cons_succ]
          first | (refine skipH (i := 19) (dst := some 135) rfl rfl (by kernel_rfl) (by kernel_rfl) (by kernel_rfl) (fun _ _ _ h => h) (by rfl) hHeld ?_) | (refine' takeH (i := 19) (dst := some 135) (v := _) rfl rfl (by kernel_rfl) (by kernel_rfl) (by kernel_rfl) (fun _ _ _ h => h) (by rfl) ?hy hHeld ?_; case hy => (intro w hSw; clear hSw; (first | done | go_simp); try with_reducible rfl)) | fail
          try simp only [Act.put, List.setIfInBounds_toArray, List.set_cons_zero, List.set_cons_succ]
          first | (refine skipH (i := 20) (dst := some 136) rfl rfl (by kernel_rfl) (by kernel_rfl) (by kernel_rfl) (fun _ _ _ h => h) (by rfl) hHeld ?_) | (refine' takeH (i := 20) (dst := some 136) (v := _) rfl rfl (by kernel_rfl) (by kernel_rfl) (by kernel_rfl) (fun _ _ _ h => h) (by rfl) ?hy hHeld ?_; case hy => (intro w hSw; obtain ⟨⟨⟨_, _⟩, ⟨_, _⟩, _⟩, ⟨⟨_, _⟩, _⟩, ⟨_, _, _⟩, _⟩ := hSw; (first | done | go_simp); try with_reducible rfl)) | fail
          try simp only [Act.put, List.setIfInBounds_toArray, List.set_cons_zero, List.set_cons_succ]
          first | (refine skipH (i := 21) (dst := some 137) rfl rfl (by kernel_rfl) (by kernel_rfl) (by kernel_rfl) (fun _ _ _ h => h) (by rfl) hHeld ?_) | (refine' takeH (i := 21) (dst := some 137) (v := _) rfl rfl (by kernel_rfl) (by kernel_rfl) (by kernel_rfl) (fun _ _ _ h => h) (by rfl) ?hy hHeld ?_; case hy => (intro w hSw; clear hSw; (first | done | go_simp); try with_reducible rfl)) | fail
          try simp only [Act.put, List.setIfInBounds_toArray, List.set_cons_zero, List.set_cons_succ]
          first | (refine skipH (i := 22) (dst := some 138) rfl rfl (by kernel_rfl) (by kernel_rfl) (by kernel_rfl) (fun _ _ _ h => h) (by rfl) hHeld ?_) | (refine' takeH (i := 22) (dst := some 138) (v := _) rfl rfl (by kernel_rfl) (by kernel_rfl) (by kernel_rfl) (fun _ _ _ h => h) (by rfl) ?hy hHeld ?_; case hy => (intro w hSw; clear hSw; (first | done | go_simp); try with_reducible rfl)) | fail
          try simp only [Act.put, List.setIfInBounds_toArray, List.set_cons_zero, List.set_cons_succ]
          first | (refine skipH (i := 23) (dst := some 139) rfl rfl (by kernel_rfl) (by kernel_rfl) (by kernel_rfl) (fun _ _ _ h => h) (by rfl) hHeld ?_) | (refine' takeH (i := 23) (dst := some 139) (v := _) rfl rfl (by kernel_rfl) (by kernel_rfl) (by kernel_rfl) (fun _ _ _ h => h) (by rfl) ?hy hHeld ?_; case hy => (intro w hSw; clear hSw; (first | done | go_simp); try with_reducible rfl)) | fail
          try simp only [Act.put, List.setIfInBounds_toArray, List.set_cons_zero, List.set_cons_succ]
          first | (refine skipH (i := 24) (dst := some 140) rfl rfl (by kernel_rfl) (by kernel_rfl) (by kernel_rfl) (fun _ _ _ h => h) (by rfl) hHeld ?_) | (refine' takeH (i := 24) (dst := some 140) (v := _) rfl rfl (by kernel_rfl) (by kernel_rfl) (by kernel_rfl) (fun _ _ _ h => h) (by rfl) ?hy hHeld ?_; case hy => (intro w hSw; clear hSw; (first | done | go_simp); try with_reducible rfl)) | fail
          try simp only [Act.put, List.setIfInBounds_toArray, List.set_cons_zero, List.set_cons_succ]
          first | (refine skipH (i := 25) (dst := some 141) rfl rfl (by kernel_rfl) (by kernel_rfl) (by kernel_rfl) (fun _ _ _ h => h) (by rfl) hHeld ?_) | (refine' takeH (i := 25) (dst := some 141) (v := _) rfl rfl (by kernel_rfl) (by kernel_rfl) (by kernel_rfl) (fun _ _ _ h => h) (by rfl) ?hy hHeld ?_; case hy => (intro w hSw; clear hSw; (first | done | go_simp); try with_reducible rfl)) | fail
          try simp only [Act.put, List.setIfInBounds_toArray, List.set_cons_zero, List.set_cons_succ]
          first | (refine skipH (i := 26) (dst := some 142) rfl rfl (by kernel_rfl) (by kernel_rfl) (by kernel_rfl) (fun _ _ _ h => h) (by rfl) hHeld ?_) | (refine' takeH (i := 26) (dst := some 142) (v := _) rfl rfl (by kernel_rfl) (by kernel_rfl) (by kernel_rfl) (fun _ _ _ h => h) (by rfl) ?hy hHeld ?_; case hy => (intro w hSw; obtain ⟨⟨⟨_, _⟩, ⟨_, _⟩, _⟩, ⟨⟨_, _⟩, _⟩, ⟨_, _, _⟩, _⟩ := hSw; (first | done | go_simp); try with_reducible rfl)) | fail
          try simp only [Act.put, List.setIfInBounds_toArray, List.set_cons_zero, List.set_cons_succ]
          first | (refine skipH (i := 27) (dst := some 143) rfl rfl (by kernel_rfl) (by kernel_rfl) (by kernel_rfl) (fun _ _ _ h => h) (by rfl) hHeld ?_) | (refine' takeH (i := 27) (dst := some 143) (v := _) rfl rfl (by kernel_rfl) (by kernel_rfl) (by kernel_rfl) (fun _ _ _ h => h) (by rfl) ?hy hHeld ?_; case hy => (intro w hSw; clear hSw; (first | done | go_simp); try with_reducible rfl)) | fail
          try simp only [Act.put, List.setIfInBounds_toArray, List.set_cons_zero, List.set_cons_succ]
          first | (refine skipH (i := 28) (dst := some 144) rfl rfl (by kernel_rfl) (by kernel_rfl) (by kernel_rfl) (fun _ _ _ h => h) (by rfl) hHeld ?_) | (refine' takeH (i := 28) (dst := some 144) (v := _) rfl rfl (by kernel_rfl) (by kernel_rfl) (by kernel_rfl) (fun _ _ _ h => h) (by rfl) ?hy hHeld ?_; case hy => (intro w hSw; obtain ⟨⟨⟨_, _⟩, ⟨_, _⟩, _⟩, ⟨⟨_, _⟩, _⟩, ⟨_, _, _⟩, _⟩ := hSw; (first | done | go_simp); try with_reducible rfl)) | fail
          try simp only [Act.put, List.setIfInBounds_toArray, List.set_cons_zero, List.set_cons_succ]
          refine wpAnyH_ready (rs := [29]) (by kernel_rfl) (by simp) ?_
          refine AllReadyH.cons (i := 29) (o := ⟨some 145, .call _, _, _, _, _⟩) rfl (fun K hK => ?_) AllReadyH.nil
          go_simp
          refine (HSR.out _ hHeld.2.2.2.2).mono ?_
          rintro e w7 ⟨rfl, hb7⟩
          have B7 := Lib.hid (bt hHeld.2.2.2.2 hb7)
          have hH := HCW.out w7 B7.out
          clear hb7 HSR
          refine hK.out _ _ hH (fun _ => ?_)
          clear hK K hHeld
          have hHeld := hH
          clear hH
          try simp only [Act.put, List.setIfInBounds_toArray, List.set_cons_zero, List.set_cons_succ]
          first | (refine skipH (i := 30) (dst := some 146) rfl rfl (by kernel_rfl) (by kernel_rfl) (by kernel_rfl) (fun _ _ _ h => h) (by rfl) hHeld ?_) | (refine' takeH (i := 30) (dst := some 146) (v := _) rfl rfl (by kernel_rfl) (by kernel_rfl) (by kernel_rfl) (fun _ _ _ h => h) (by rfl) ?hy hHeld ?_; case hy => (intro w hSw; clear hSw; (first | done | go_simp); try with_reducible rfl)) | fail
          try simp only [Act.put, List.setIfInBounds_toArray, List.set_cons_zero, List.set_cons_succ]
          first | (refine skipH (i := 31) (dst := some 147) rfl rfl (by kernel_rfl) (by kernel_rfl) (by kernel_rfl) (fun _ _ _ h => h) (by rfl) hHeld ?_) | (refine' takeH (i := 31) (dst := some 147) (v := _) rfl rfl (by kernel_rfl) (by kernel_rfl) (by kernel_rfl) (fun _ _ _ h => h) (by rfl) ?hy hHeld ?_; case hy => (intro w hSw; clear hSw; (first | done | go_simp); try with_reducible rfl)) | fail
          try simp only [Act.put, List.setIfInBounds_toArray, List.set_cons_zero, List.set_cons_succ]
          first | (refine skipH (i := 32) (dst := some 148) rfl rfl (by kernel_rfl) (by kernel_rfl) (by kernel_rfl) (fun _ _ _ h => h) (by rfl) hHeld ?_) | (refine' takeH (i := 32) (dst := some 148) (v := _) rfl rfl (by kernel_rfl) (by kernel_rfl) (by kernel_rfl) (fun _ _ _ h => h) (by rfl) ?hy hHeld ?_; case hy => (intro w hSw; clear hSw; (first | done | go_simp); try with_reducible rfl)) | fail
          try simp only [Act.put, List.setIfInBounds_toArray, List.set_cons_zero, List.set_cons_succ]
          first | (refine skipH (i := 33) (dst := some 149) rfl rfl (by kernel_rfl) (by kernel_rfl) (by kernel_rfl) (fun _ _ _ h => h) (by rfl) hHeld ?_) | (refine' takeH (i := 33) (dst := some 149) (v := _) rfl rfl (by kernel_rfl) (by kernel_rfl) (by kernel_rfl) (fun _ _ _ h => h) (by rfl) ?hy hHeld ?_; case hy => (intro w hSw; clear hSw; (first | done | go_simp); try with_reducible rfl)) | fail
          try simp only [Act.put, List.setIfInBounds_toArray, List.set_cons_zero, List.set_cons_succ]
          first | (refine skipH (i := 34) (dst := some 150) rfl rfl (by kernel_rfl) (by kernel_rfl) (by kernel_rfl) (fun _ _ _ h => h) (by rfl) hHeld ?_) | (refine' takeH (i := 34) (dst := some 150) (v := _) rfl rfl (by kernel_rfl) (by kernel_rfl) (by kernel_rfl) (fun _ _ _ h => h) (by rfl) ?hy hHeld ?_; case hy => (intro w hSw; obtain ⟨⟨⟨_, _⟩, ⟨_, _⟩, _⟩, ⟨⟨_, _⟩, _⟩, ⟨_, _, _⟩, _⟩ := hSw; (first | done | go_simp); try with_reducible rfl)) | fail
          try simp only [Act.put, List.setIfInBounds_toArray, List.set_cons_zero, List.set_cons_succ]
          first | (refine skipH (i := 35) (dst := some 151) rfl rfl (by kernel_rfl) (by kernel_rfl) (by kernel_rfl) (fun _ _ _ h => h) (by rfl) hHeld ?_) | (refine' takeH (i := 35) (dst := some 151) (v := _) rfl rfl (by kernel_rfl) (by kernel_rfl) (by kernel_rfl) (fun _ _ _ h => h) (by rfl) ?hy hHeld ?_; case hy => (intro w hSw; clear hSw; (first | done | go_simp); try with_reducible rfl)) | fail
          try simp only [Act.put, List.setIfInBounds_toArray, List.set_cons_zero, List.set_cons_succ]
          first | (refine skipH (i := 36) (dst := some 152) rfl rfl (by kernel_rfl) (by kernel_rfl) (by kernel_rfl) (fun _ _ _ h => h) (by rfl) hHeld ?_) | (refine' takeH (i := 36) (dst := some 152) (v := _) rfl rfl (by kernel_rfl) (by kernel_rfl) (by kernel_rfl) (fun _ _ _ h => h) (by rfl) ?hy hHeld ?_; case hy => (intro w hSw; obtain ⟨⟨⟨_, _⟩, ⟨_, _⟩, _⟩, ⟨⟨_, _⟩, _⟩, ⟨_, _, _⟩, _⟩ := hSw; (first | done | go_simp); try with_reducible rfl)) | fail
          try simp only [Act.put, List.setIfInBounds_toArray, List.set_cons_zero, List.set_cons_succ]
          refine takeRow (i := 37) (dst := some 153) (famRow (FM k) (ra, (FM k).reads.length, rc) (Aa, An, Ac)) bx 76 _ _ rfl rfl (by kernel_rfl) (by kernel_rfl) (by kernel_rfl) (fun _ _ _ h => h) (by rfl) rfl rfl (fun w hw => hw.2.2.2.1) Tryd.underlying76 rfl (by kernel_rfl) hHeld ?_
          try simp only [Act.put, List.setIfInBounds_toArray, List.set_cons_zero, List.set_cons_succ]
          refine wpAnyH_ready (rs := [38]) (by kernel_rfl) (by simp) ?_
          refine AllReadyH.cons (i := 38) (o := ⟨some 154, .call _, _, _, _, _⟩) rfl (fun K hK => ?_) AllReadyH.nil
          go_simp
          refine (HS0.out _ (bt B6.out hHeld.2.2.2.2)).mono ?_
          rintro e w8 ⟨rfl, hb8⟩
          have B8 := Lib.hid (bt hHeld.2.2.2.2 hb8)
          have hH := HCW.out w8 B8.out
          clear hb8 HS0 B7
          refine hK.out _ _ hH (fun _ => ?_)
          clear hK K hHeld
          have hHeld := hH
          clear hH
          try simp only [Act.put, List.setIfInBounds_toArray, List.set_cons_zero, List.set_cons_succ]
          first | (refine skipH (i := 39) (dst := some 155) rfl rfl (by kernel_rfl) (by kernel_rfl) (by kernel_rfl) (fun _ _ _ h => h) (by rfl) hHeld ?_) | (refine' takeH (i := 39) (dst := some 155) (v := _) rfl rfl (by kernel_rfl) (by kernel_rfl) (by kernel_rfl) (fun _ _ _ h => h) (by rfl) ?hy hHeld ?_; case hy => (intro w hSw; clear hSw; (first | done | go_simp); try with_reducible rfl)) | fail
          try simp only [Act.put, List.setIfInBounds_toArray, List.set_cons_zero, List.set_cons_succ]
          first | (refine skipH (i := 40) (dst := some 156) rfl rfl (by kernel_rfl) (by kernel_rfl) (by kernel_rfl) (fun _ _ _ h => h) (by rfl) hHeld ?_) | (refine' takeH (i := 40) (dst := some 156) (v := _) rfl rfl (by kernel_rfl) (by kernel_rfl) (by kernel_rfl) (fun _ _ _ h => h) (by rfl) ?hy hHeld ?_; case hy => (intro w hSw; clear hSw; (first | done | go_simp); try with_reducible rfl)) | fail
          try simp only [Act.put, List.setIfInBounds_toArray, List.set_cons_zero, List.set_cons_succ]
          first | (refine skipH (i := 41) (dst := some 157) rfl rfl (by kernel_rfl) (by kernel_rfl) (by kernel_rfl) (fun _ _ _ h => h) (by rfl) hHeld ?_) | (refine' takeH (i := 41) (dst := some 157) (v := _) rfl rfl (by kernel_rfl) (by kernel_rfl) (by kernel_rfl) (fun _ _ _ h => h) (by rfl) ?hy hHeld ?_; case hy => (intro w hSw; clear hSw; (first | done | go_simp); try with_reducible rfl)) | fail
          try simp only [Act.put, List.setIfInBounds_toArray, List.set_cons_zero, List.set_cons_succ]
          first | (refine skipH (i := 42) (dst := some 158) rfl rfl (by kernel_rfl) (by kernel_rfl) (by kernel_rfl) (fun _ _ _ h => h) (by rfl) hHeld ?_) | (refine' takeH (i := 42) (dst := some 158) (v := _) rfl rfl (by kernel_rfl) (by kernel_rfl) (by kernel_rfl) (fun _ _ _ h => h) (by rfl) ?hy hHeld ?_; case hy => (intro w hSw; clear hSw; (first | done | go_simp); try with_reducible rfl)) | fail
          try simp only [Act.put, List.setIfInBounds_toArray, List.set_cons_zero, List.set_cons_succ]
          first | (refine skipH (i := 43) (dst := some 159) rfl rfl (by kernel_rfl) (by kernel_rfl) (by kernel_rfl) (fun _ _ _ h => h) (by rfl) hHeld ?_) | (refine' takeH (i := 43) (dst := some 159) (v := _) rfl rfl (by kernel_rfl) (by kernel_rfl) (by kernel_rfl) (fun _ _ _ h => h) (by rfl) ?hy hHeld ?_; case hy => (intro w hSw; obtain ⟨⟨⟨_, _⟩, ⟨_, _⟩, _⟩, ⟨⟨_, _⟩, _⟩, ⟨_, _, _⟩, _⟩ := hSw; (first | done | go_simp); try with_reducible rfl)) | fail
          try simp only [Act.put, List.setIfInBounds_toArray, List.set_cons_zero, List.set_cons_succ]
          first | (refine skipH (i := 44) (dst := some 160) rfl rfl (by kernel_rfl) (by kernel_rfl) (by kernel_rfl) (fun _ _ _ h => h) (by rfl) hHeld ?_) | (refine' takeH (i := 44) (dst := some 160) (v := _) rfl rfl (by kernel_rfl) (by kernel_rfl) (by kernel_rfl) (fun _ _ _ h => h) (by rfl) ?hy hHeld ?_; case hy => (intro w hSw; clear hSw; (first | done | go_simp); try with_reducible rfl)) | fail
          try simp only [Act.put, List.setIfInBounds_toArray, List.set_cons_zero, List.set_cons_succ]
          first | (refine skipH (i := 45) (dst := some 161) rfl rfl (by kernel_rfl) (by kernel_rfl) (by kernel_rfl) (fun _ _ _ h => h) (by rfl) hHeld ?_) | (refine' takeH (i := 45) (dst := some 161) (v := _) rfl rfl (by kernel_rfl) (by kernel_rfl) (by kernel_rfl) (fun _ _ _ h => h) (by rfl) ?hy hHeld ?_; case hy => (intro w hSw; obtain ⟨⟨⟨_, _⟩, ⟨_, _⟩, _⟩, ⟨⟨_, _⟩, _⟩, ⟨_, _, _⟩, _⟩ := hSw; (first | done | go_simp); try with_reducible rfl)) | fail
          try simp only [Act.put, List.setIfInBounds_toArray, List.set_cons_zero, List.set_cons_succ]
          refine takeRow (i := 46) (dst := some 162) (famRow (FM k) (ra, (FM k).reads.length, rc) (Aa, An, Ac)) bx 76 _ _ rfl rfl (by kernel_rfl) (by kernel_rfl) (by kernel_rfl) (fun _ _ _ h => h) (by rfl) rfl rfl (fun w hw => hw.2.2.2.1) Tryd.underlying76 rfl (by kernel_rfl) hHeld ?_
          try simp only [Act.put, List.setIfInBounds_toArray, List.set_cons_zero, List.set_cons_succ]
          refine wpAnyH_ready (rs := [47]) (by kernel_rfl) (by simp) ?_
          refine AllReadyH.cons (i := 47) (o := ⟨some 163, .call _, _, _, _, _⟩) rfl (fun K hK => ?_) AllReadyH.nil
          go_simp
          refine (HS1.out _ (bt B6.out hHeld.2.2.2.2)).mono ?_
          rintro e w9 ⟨rfl, hb9⟩
          have B9 := Lib.hid (bt hHeld.2.2.2.2 hb9)
          have hH := HCW.out w9 B9.out
          clear hb9 HS1 B8
          refine hK.out _ _ hH (fun _ => ?_)
          clear hK K hHeld
          have hHeld := hH
          clear hH
          try simp only [Act.put, List.setIfInBounds_toArray, List.set_cons_zero, List.set_cons_succ]
          first | (refine skipH (i := 48) (dst := some 164) rfl rfl (by kernel_rfl) (by kernel_rfl) (by kernel_rfl) (fun _ _ _ h => h) (by rfl) hHeld ?_) | (refine' takeH (i := 48) (dst := some 164) (v := _) rfl rfl (by kernel_rfl) (by kernel_rfl) (by kernel_rfl) (fun _ _ _ h => h) (by rfl) ?hy hHeld ?_; case hy => (intro w hSw; clear hSw; (first | done | go_simp); try with_reducible rfl)) | fail
          try simp only [Act.put, List.setIfInBounds_toArray, List.set_cons_zero, List.set_cons_succ]
          first | (refine skipH (i := 49) (dst := some 165) rfl rfl (by kernel_rfl) (by kernel_rfl) (by kernel_rfl) (fun _ _ _ h => h) (by rfl) hHeld ?_) | (refine' takeH (i := 49) (dst := some 165) (v := _) rfl rfl (by kernel_rfl) (by kernel_rfl) (by kernel_rfl) (fun _ _ _ h => h) (by rfl) ?hy hHeld ?_; case hy => (intro w hSw; clear hSw; (first | done | go_simp); try with_reducible rfl)) | fail
          try simp only [Act.put, List.setIfInBounds_toArray, List.set_cons_zero, List.set_cons_succ]
          refine wpAnyH_done (by kernel_rfl) (NoPanic.normal ?_) _
          clear hHeld
          go_wp2_with fail
          go_roundw
          case rel => exact ⟨k + 1, by omega, by go_num, bt BW.out (bt B6.out B9.out)⟩
          case measure => simp [RowKit.intOf]; omega
        · obtain rfl : k = 5 := by omega
          subst hh
          have HFIN := Lib.hid (bt B2.out BW.out)
          go_wp2_with fail
          go_ret
          exact ⟨rfl, HFIN.out⟩
end Go.Proofs.YtnnaoneegeenkaaDoor.Rp
