/- What a registry tells is what the document's has, and is written over. -/
import Derived.Test.YtjafddkkndfphaaKqD
namespace Go.Proofs.Ytjafddkkndfphaa.Kq
open Go.ChangeShapes Go.WideShapes Go.ChangeAt Go.RowKit Own Ro wordsNames Kc Kr

set_option maxRecDepth 100000 in
set_option maxHeartbeats 16000000 in
theorem told_any {g q : Nat} {C F : Cs} {c f n : Sl} {RC RF : List Sl} {N : List Nt} {z : Bool} (w : World) (hP : RegAt w g C F N z) (hQ : Qat w q c f n (Kr.plain C) (Kr.plain F) RC RF N z) :
    Calls Try.prog 32 #[.pointer (some ⟨g, 0, none⟩), .pointer (some ⟨q, 0, none⟩)] w fun e w' => e = .returned (.bool true) ∧ Below w.heap.size w w' := by
  have HP := Lib.hid hP
  have HQ := Lib.hid hQ
  clear hP hQ
  go_enter Try.func32, Try.ntmps32
  go_wp2_with fail
  go_loopw [5] (fun v5 wr => ∃ k : Nat, k ≤ 2 ∧ v5 = .int .i64 (k : Int) ∧ Below w.heap.size w wr) (fun v5 _ => 2 - (RowKit.intOf v5).toNat)
  case atStart => exact ⟨0, by omega, rfl, Below.refl _ _⟩
  case round =>
    obtain ⟨k, hk, rfl, hbr⟩ := hrel
    have BR := Lib.hid hbr
    clear hbr
    by_cases hlt : k < 2
    · have l1 : (0 : Int) ≤ (k : Int) := by omega
      have l2 : (k : Int) < 2 := by omega
      go_wp2_with fail
      refine (cards_any g C F N z wr (HP.out.below BR.out)).mono ?_
      rintro e w1 ⟨A1, c1, n1, R1, rfl, hr1, hb1⟩
      have B1 := Lib.hid (bt BR.out hb1)
      have D1 := Lib.hid hb1
      have S1 := Lib.hid hr1
      clear hr1 hb1
      go_wp2_with fail
      refine (refused_any g C F N z w1 (HP.out.below B1.out)).mono ?_
      rintro e w2 ⟨A2, c2, n2, R2, rfl, hr2, hb2⟩
      have B2 := Lib.hid (bt B1.out hb2)
      have D2 := Lib.hid (bt D1.out hb2)
      have S2 := Lib.hid hr2
      have S1' := Lib.hid (S1.out.below hb2)
      have HAP : Hid (∀ y, (slV (A1, n1, c1)).ownBlock = some y → (slV (A2, n2, c2)).ownBlock ≠ some y) := Lib.hid (fun y h1 h2 => by
        have := (S1.out.2.1.lt y h1).2
        have := (hr2.2.1.lt y h2).1
        omega)
      have hsz1 : wr.heap.size ≤ w1.heap.size := D1.out.size
      clear hr2 hb2 B1 D1 S1
      go_wp2_with fail
      refine (notes_any g C F N z w2 (HP.out.below B2.out)).mono ?_
      rintro e w3 ⟨A3, c3, n3, rfl, hn3, hr3, hb3⟩
      have B3 := Lib.hid (bt B2.out hb3)
      have T1 := Lib.hid (S1'.out.below hb3)
      have T2 := Lib.hid (S2.out.below hb3)
      have T3 := Lib.hid hr3
      have HN3 := Lib.hid hn3
      have hsz2 : wr.heap.size ≤ w2.heap.size := D2.out.size
      have D3 := Lib.hid (bt D2.out hb3)
      clear hr3 hb3 B2 D2 S1' S2 hn3
      have Q3 := Lib.hid (HQ.out.below B3.out)
      have y0 := Q3.out.cell (j := 0) rfl
      have y1 := Q3.out.cell (j := 1) rfl
      have y2 := Q3.out.cell (j := 2) rfl
      have y3 := Q3.out.cell (j := 3) rfl
      have HSC : Hid (∀ V, Below w3.heap.size w3 V → Calls Try.prog 23 #[.slice A1 n1 c1, slV c] V (fun e w' => e = .returned (.bool true) ∧ Below V.heap.size V w')) := Lib.hid (fun V hV => sameCards_any A1 c.1 c1 n1 c.2.2 c.2.1 (Kr.plain C) (Kr.plain C) R1 RC true V (by simp) Q3.out.cm Q3.out.cm (T1.out.below hV).rows (Q3.out.cl.below hV).rows)
      have HSF : Hid (∀ V, Below w3.heap.size w3 V → Calls Try.prog 23 #[.slice A2 n2 c2, slV f] V (fun e w' => e = .returned (.bool true) ∧ Below V.heap.size V w')) := Lib.hid (fun V hV => sameCards_any A2 f.1 c2 n2 f.2.2 f.2.1 (Kr.plain F) (Kr.plain F) R2 RF true V (by simp) Q3.out.fm Q3.out.fm (T2.out.below hV).rows (Q3.out.fl.below hV).rows)
      have HSN : Hid (∀ V, Below w3.heap.size w3 V → Calls Try.prog 48 #[.slice A3 n3 c3, slV n] V (fun e w' => e = .returned (.bool true) ∧ Below V.heap.size V w')) := Lib.hid (fun V hV => by
        have h1 := own_cells (own_belowK T3.out hV)
        have h2 := own_cells (show V.ownsRow 0 78 4 (.slice n.1 n.2.1 n.2.2) n.2.1 (N.flatMap ntRow) from own_belowK Q3.out.nl hV)
        rw [Q3.out.nn, ← HN3.out] at h2
        have := sameNotes_any A3 n.1 c3 n.2.2 n3 N V HN3.out Q3.out.n256 h1 h2
        have e : slV n = .slice n.1 n3 n.2.2 := by unfold slV; rw [Q3.out.nn, HN3.out]
        rw [e]
        exact this)
      have HFZ := Lib.hid (fun V (hV : Below w3.heap.size w3 V) => frozen_any g C F N z V (HP.out.below (bt B3.out hV)))
      have HCE : Hid (∀ V, Below w3.heap.size w3 V → V.cell? ⟨q, 0, none⟩ = some (slV c) ∧ V.cell? ⟨q, 1, none⟩ = some (slV f) ∧ V.cell? ⟨q, 2, none⟩ = some (slV n) ∧ V.cell? ⟨q, 3, none⟩ = some (.bool z) ∧ Below w3.heap.size w3 V) := Lib.hid (fun V hV => ⟨(Q3.out.below hV).cell (j := 0) rfl, (Q3.out.below hV).cell (j := 1) rfl, (Q3.out.below hV).cell (j := 2) rfl, (Q3.out.below hV).cell (j := 3) rfl, hV⟩)
      have hz : (z != z) = false := by simp
      clear y0 y1 y2 y3
      go_wp2_with fail
      refine wp_region_noPanic ?_
      refine wp_region_held_drew (S := fun V => V.cell? ⟨q, 0, none⟩ = some (slV c) ∧ V.cell? ⟨q, 1, none⟩ = some (slV f) ∧ V.cell? ⟨q, 2, none⟩ = some (slV n) ∧ V.cell? ⟨q, 3, none⟩ = some (.bool z) ∧ Below w3.heap.size w3 V) (by kernel_rfl) (HCE.out _ (below_dr (Below.refl _ _) 1)) (fun hHeld => ?_)
      first | (refine skipH (i := 0) (dst := some 24) rfl rfl (by kernel_rfl) (by kernel_rfl) (by kernel_rfl) (fun _ _ _ h => h) (by rfl) hHeld ?_) | (refine' takeH (i := 0) (dst := some 24) (v := _) rfl rfl (by kernel_rfl) (by kernel_rfl) (by kernel_rfl) (fun _ _ _ h => h) (by rfl) ?hy hHeld ?_; case hy => (intro w hSw; clear hSw; (first | done | go_simp); try with_reducible rfl)) | fail
      try simp only [Act.put, List.setIfInBounds_toArray, List.set_cons_zero, List.set_cons_succ]
      first | (refine skipH (i := 1) (dst := some 25) rfl rfl (by kernel_rfl) (by kernel_rfl) (by kernel_rfl) (fun _ _ _ h => h) (by rfl) hHeld ?_) | (refine' takeH (i := 1) (dst := some 25) (v := _) rfl rfl (by kernel_rfl) (by kernel_rfl) (by kernel_rfl) (fun _ _ _ h => h) (by rfl) ?hy hHeld ?_; case hy => (intro w hSw; clear hSw; (first | done | go_simp); try with_reducible rfl)) | fail
      try simp only [Act.put, List.setIfInBounds_toArray, List.set_cons_zero, List.set_cons_succ]
      first | (refine skipH (i := 2) (dst := some 26) rfl rfl (by kernel_rfl) (by kernel_rfl) (by kernel_rfl) (fun _ _ _ h => h) (by rfl) hHeld ?_) | (refine' takeH (i := 2) (dst := some 26) (v := _) rfl rfl (by kernel_rfl) (by kernel_rfl) (by kernel_rfl) (fun _ _ _ h => h) (by rfl) ?hy hHeld ?_; case hy => (intro w hSw; clear hSw; (first | done | go_simp); try with_reducible rfl)) | fail
      try simp only [Act.put, List.setIfInBounds_toArray, List.set_cons_zero, List.set_cons_succ]
      first | (refine skipH (i := 3) (dst := some 27) rfl rfl (by kernel_rfl) (by kernel_rfl) (by kernel_rfl) (fun _ _ _ h => h) (by rfl) hHeld ?_) | (refine' takeH (i := 3) (dst := some 27) (v := _) rfl rfl (by kernel_rfl) (by kernel_rfl) (by kernel_rfl) (fun _ _ _ h => h) (by rfl) ?hy hHeld ?_; case hy => (intro w hSw; clear hSw; (first | done | go_simp); try with_reducible rfl)) | fail
      try simp only [Act.put, List.setIfInBounds_toArray, List.set_cons_zero, List.set_cons_succ]
      first | (refine skipH (i := 4) (dst := some 28) rfl rfl (by kernel_rfl) (by kernel_rfl) (by kernel_rfl) (fun _ _ _ h => h) (by rfl) hHeld ?_) | (refine' takeH (i := 4) (dst := some 28) (v := _) rfl rfl (by kernel_rfl) (by kernel_rfl) (by kernel_rfl) (fun _ _ _ h => h) (by rfl) ?hy hHeld ?_; case hy => (intro w hSw; obtain ⟨_, _, _, _, _⟩ := hSw; (first | done | go_simp); try with_reducible rfl)) | fail
      try simp only [Act.put, List.setIfInBounds_toArray, List.set_cons_zero, List.set_cons_succ]
      refine wpAnyH_ready (rs := [5]) (by kernel_rfl) (by simp) ?_
      refine AllReadyH.cons (i := 5) (o := ⟨some 29, .call _, _, _, _, _⟩) rfl (fun K hK => ?_) AllReadyH.nil
      go_simp
      refine (HSC.out _ hHeld.2.2.2.2).mono ?_
      rintro e w5 ⟨rfl, b5⟩
      have hH := HCE.out _ (bt hHeld.2.2.2.2 b5)
      clear b5
      refine hK.out _ _ hH (fun _ => ?_)
      clear hK K hHeld
      have hHeld := hH
      clear hH
      try simp only [Act.put, List.setIfInBounds_toArray, List.set_cons_zero, List.set_cons_succ]
      first | (refine skipH (i := 6) (dst := some 30) rfl rfl (by kernel_rfl) (by kernel_rfl) (by kernel_rfl) (fun _ _ _ h => h) (by rfl) hHeld ?_) | (refine' takeH (i := 6) (dst := some 30) (v := _) rfl rfl (by kernel_rfl) (by kernel_rfl) (by kernel_rfl) (fun _ _ _ h => h) (by rfl) ?hy hHeld ?_; case hy => (intro w hSw; clear hSw; (first | done | go_simp); try with_reducible rfl)) | fail
      try simp only [Act.put, List.setIfInBounds_toArray, List.set_cons_zero, List.set_cons_succ]
      first | (refine skipH (i := 7) (dst := some 31) rfl rfl (by kernel_rfl) (by kernel_rfl) (by kernel_rfl) (fun _ _ _ h => h) (by rfl) hHeld ?_) | (refine' takeH (i := 7) (dst := some 31) (v := _) rfl rfl (by kernel_rfl) (by kernel_rfl) (by kernel_rfl) (fun _ _ _ h => h) (by rfl) ?hy hHeld ?_; case hy => (intro w hSw; clear hSw; (first | done | go_simp); try with_reducible rfl)) | fail
      try simp only [Act.put, List.setIfInBounds_toArray, List.set_cons_zero, List.set_cons_succ]
      first | (refine skipH (i := 8) (dst := some 32) rfl rfl (by kernel_rfl) (by kernel_rfl) (by kernel_rfl) (fun _ _ _ h => h) (by rfl) hHeld ?_) | (refine' takeH (i := 8) (dst := some 32) (v := _) rfl rfl (by kernel_rfl) (by kernel_rfl) (by kernel_rfl) (fun _ _ _ h => h) (by rfl) ?hy hHeld ?_; case hy => (intro w hSw; clear hSw; (first | done | go_simp); try with_reducible rfl)) | fail
      try simp only [Act.put, List.setIfInBounds_toArray, List.set_cons_zero, List.set_cons_succ]
      first | (refine skipH (i := 9) (dst := some 33) rfl rfl (by kernel_rfl) (by kernel_rfl) (by kernel_rfl) (fun _ _ _ h => h) (by rfl) hHeld ?_) | (refine' takeH (i := 9) (dst := some 33) (v := _) rfl rfl (by kernel_rfl) (by kernel_rfl) (by kernel_rfl) (fun _ _ _ h => h) (by rfl) ?hy hHeld ?_; case hy => (intro w hSw; clear hSw; (first | done | go_simp); try with_reducible rfl)) | fail
      try simp only [Act.put, List.setIfInBounds_toArray, List.set_cons_zero, List.set_cons_succ]
      first | (refine skipH (i := 10) (dst := some 34) rfl rfl (by kernel_rfl) (by kernel_rfl) (by kernel_rfl) (fun _ _ _ h => h) (by rfl) hHeld ?_) | (refine' takeH (i := 10) (dst := some 34) (v := _) rfl rfl (by kernel_rfl) (by kernel_rfl) (by kernel_rfl) (fun _ _ _ h => h) (by rfl) ?hy hHeld ?_; case hy => (intro w hSw; clear hSw; (first | done | go_simp); try with_reducible rfl)) | fail
      try simp only [Act.put, List.setIfInBounds_toArray, List.set_cons_zero, List.set_cons_succ]
      first | (refine skipH (i := 11) (dst := some 35) rfl rfl (by kernel_rfl) (by kernel_rfl) (by kernel_rfl) (fun _ _ _ h => h) (by rfl) hHeld ?_) | (refine' takeH (i := 11) (dst := some 35) (v := _) rfl rfl (by kernel_rfl) (by kernel_rfl) (by kernel_rfl) (fun _ _ _ h => h) (by rfl) ?hy hHeld ?_; case hy => (intro w hSw; clear hSw; (first | done | go_simp); try with_reducible rfl)) | fail
      try simp only [Act.put, List.setIfInBounds_toArray, List.set_cons_zero, List.set_cons_succ]
      first | (refine skipH (i := 12) (dst := some 36) rfl rfl (by kernel_rfl) (by kernel_rfl) (by kernel_rfl) (fun _ _ _ h => h) (by rfl) hHeld ?_) | (refine' takeH (i := 12) (dst := some 36) (v := _) rfl rfl (by kernel_rfl) (by kernel_rfl) (by kernel_rfl) (fun _ _ _ h => h) (by rfl) ?hy hHeld ?_; case hy => (intro w hSw; obtain ⟨_, _, _, _, _⟩ := hSw; (first | done | go_simp); try with_reducible rfl)) | fail
      try simp only [Act.put, List.setIfInBounds_toArray, List.set_cons_zero, List.set_cons_succ]
      refine wpAnyH_ready (rs := [13]) (by kernel_rfl) (by simp) ?_
      refine AllReadyH.cons (i := 13) (o := ⟨some 37, .call _, _, _, _, _⟩) rfl (fun K hK => ?_) AllReadyH.nil
      go_simp
      refine (HSF.out _ hHeld.2.2.2.2).mono ?_
      rintro e w6 ⟨rfl, b5⟩
      have hH := HCE.out _ (bt hHeld.2.2.2.2 b5)
      clear b5
      refine hK.out _ _ hH (fun _ => ?_)
      clear hK K hHeld
      have hHeld := hH
      clear hH
      try simp only [Act.put, List.setIfInBounds_toArray, List.set_cons_zero, List.set_cons_succ]
      first | (refine skipH (i := 14) (dst := some 38) rfl rfl (by kernel_rfl) (by kernel_rfl) (by kernel_rfl) (fun _ _ _ h => h) (by rfl) hHeld ?_) | (refine' takeH (i := 14) (dst := some 38) (v := _) rfl rfl (by kernel_rfl) (by kernel_rfl) (by kernel_rfl) (fun _ _ _ h => h) (by rfl) ?hy hHeld ?_; case hy => (intro w hSw; clear hSw; (first | done | go_simp); try with_reducible rfl)) | fail
      try simp only [Act.put, List.setIfInBounds_toArray, List.set_cons_zero, List.set_cons_succ]
      first | (refine skipH (i := 15) (dst := some 39) rfl rfl (by kernel_rfl) (by kernel_rfl) (by kernel_rfl) (fun _ _ _ h => h) (by rfl) hHeld ?_) | (refine' takeH (i := 15) (dst := some 39) (v := _) rfl rfl (by kernel_rfl) (by kernel_rfl) (by kernel_rfl) (fun _ _ _ h => h) (by rfl) ?hy hHeld ?_; case hy => (intro w hSw; clear hSw; (first | done | go_simp); try with_reducible rfl)) | fail
      try simp only [Act.put, List.setIfInBounds_toArray, List.set_cons_zero, List.set_cons_succ]
      first | (refine skipH (i := 16) (dst := some 40) rfl rfl (by kernel_rfl) (by kernel_rfl) (by kernel_rfl) (fun _ _ _ h => h) (by rfl) hHeld ?_) | (refine' takeH (i := 16) (dst := some 40) (v := _) rfl rfl (by kernel_rfl) (by kernel_rfl) (by kernel_rfl) (fun _ _ _ h => h) (by rfl) ?hy hHeld ?_; case hy => (intro w hSw; clear hSw; (first | done | go_simp); try with_reducible rfl)) | fail
      try simp only [Act.put, List.setIfInBounds_toArray, List.set_cons_zero, List.set_cons_succ]
      first | (refine skipH (i := 17) (dst := some 41) rfl rfl (by kernel_rfl) (by kernel_rfl) (by kernel_rfl) (fun _ _ _ h => h) (by rfl) hHeld ?_) | (refine' takeH (i := 17) (dst := some 41) (v := _) rfl rfl (by kernel_rfl) (by kernel_rfl) (by kernel_rfl) (fun _ _ _ h => h) (by rfl) ?hy hHeld ?_; case hy => (intro w hSw; clear hSw; (first | done | go_simp); try with_reducible rfl)) | fail
      try simp only [Act.put, List.setIfInBounds_toArray, List.set_cons_zero, List.set_cons_succ]
      first | (refine skipH (i := 18) (dst := some 42) rfl rfl (by kernel_rfl) (by kernel_rfl) (by kernel_rfl) (fun _ _ _ h => h) (by rfl) hHeld ?_) | (refine' takeH (i := 18) (dst := some 42) (v := _) rfl rfl (by kernel_rfl) (by kernel_rfl) (by kernel_rfl) (fun _ _ _ h => h) (by rfl) ?hy hHeld ?_; case hy => (intro w hSw; clear hSw; (first | done | go_simp); try with_reducible rfl)) | fail
      try simp only [Act.put, List.setIfInBounds_toArray, List.set_cons_zero, List.set_cons_succ]
      first | (refine skipH (i := 19) (dst := some 43) rfl rfl (by kernel_rfl) (by kernel_rfl) (by kernel_rfl) (fun _ _ _ h => h) (by rfl) hHeld ?_) | (refine' takeH (i := 19) (dst := some 43) (v := _) rfl rfl (by kernel_rfl) (by kernel_rfl) (by kernel_rfl) (fun _ _ _ h => h) (by rfl) ?hy hHeld ?_; case hy => (intro w hSw; clear hSw; (first | done | go_simp); try with_reducible rfl)) | fail
      try simp only [Act.put, List.setIfInBounds_toArray, List.set_cons_zero, List.set_cons_succ]
      first | (refine skipH (i := 20) (dst := some 44) rfl rfl (by kernel_rfl) (by kernel_rfl) (by kernel_rfl) (fun _ _ _ h => h) (by rfl) hHeld ?_) | (refine' takeH (i := 20) (dst := some 44) (v := _) rfl rfl (by kernel_rfl) (by kernel_rfl) (by kernel_rfl) (fun _ _ _ h => h) (by rfl) ?hy hHeld ?_; case hy => (intro w hSw; clear hSw; (first | done | go_simp); try with_reducible rfl)) | fail
      try simp only [Act.put, List.setIfInBounds_toArray, List.set_cons_zero, List.set_cons_succ]
      first | (refine skipH (i := 21) (dst := some 45) rfl rfl (by kernel_rfl) (by kernel_rfl) (by kernel_rfl) (fun _ _ _ h => h) (by rfl) hHeld ?_) | (refine' takeH (i := 21) (dst := some 45) (v := _) rfl rfl (by kernel_rfl) (by kernel_rfl) (by kernel_rfl) (fun _ _ _ h => h) (by rfl) ?hy hHeld ?_; case hy => (intro w hSw; obtain ⟨_, _, _, _, _⟩ := hSw; (first | done | go_simp); try with_reducible rfl)) | fail
      try simp only [Act.put, List.setIfInBounds_toArray, List.set_cons_zero, List.set_cons_succ]
      refine wpAnyH_ready (rs := [22]) (by kernel_rfl) (by simp) ?_
      refine AllReadyH.cons (i := 22) (o := ⟨some 46, .call _, _, _, _, _⟩) rfl (fun K hK => ?_) AllReadyH.nil
      go_simp
      refine (HSN.out _ hHeld.2.2.2.2).mono ?_
      rintro e w7 ⟨rfl, b5⟩
      have hH := HCE.out _ (bt hHeld.2.2.2.2 b5)
      clear b5
      refine hK.out _ _ hH (fun _ => ?_)
      clear hK K hHeld
      have hHeld := hH
      clear hH
      try simp only [Act.put, List.setIfInBounds_toArray, List.set_cons_zero, List.set_cons_succ]
      first | (refine skipH (i := 23) (dst := some 47) rfl rfl (by kernel_rfl) (by kernel_rfl) (by kernel_rfl) (fun _ _ _ h => h) (by rfl) hHeld ?_) | (refine' takeH (i := 23) (dst := some 47) (v := _) rfl rfl (by kernel_rfl) (by kernel_rfl) (by kernel_rfl) (fun _ _ _ h => h) (by rfl) ?hy hHeld ?_; case hy => (intro w hSw; clear hSw; (first | done | go_simp); try with_reducible rfl)) | fail
      try simp only [Act.put, List.setIfInBounds_toArray, List.set_cons_zero, List.set_cons_succ]
      first | (refine skipH (i := 24) (dst := some 48) rfl rfl (by kernel_rfl) (by kernel_rfl) (by kernel_rfl) (fun _ _ _ h => h) (by rfl) hHeld ?_) | (refine' takeH (i := 24) (dst := some 48) (v := _) rfl rfl (by kernel_rfl) (by kernel_rfl) (by kernel_rfl) (fun _ _ _ h => h) (by rfl) ?hy hHeld ?_; case hy => (intro w hSw; clear hSw; (first | done | go_simp); try with_reducible rfl)) | fail
      try simp only [Act.put, List.setIfInBounds_toArray, List.set_cons_zero, List.set_cons_succ]
      first | (refine skipH (i := 25) (dst := some 49) rfl rfl (by kernel_rfl) (by kernel_rfl) (by kernel_rfl) (fun _ _ _ h => h) (by rfl) hHeld ?_) | (refine' takeH (i := 25) (dst := some 49) (v := _) rfl rfl (by kernel_rfl) (by kernel_rfl) (by kernel_rfl) (fun _ _ _ h => h) (by rfl) ?hy hHeld ?_; case hy => (intro w hSw; clear hSw; (first | done | go_simp); try with_reducible rfl)) | fail
      try simp only [Act.put, List.setIfInBounds_toArray, List.set_cons_zero, List.set_cons_succ]
      first | (refine skipH (i := 26) (dst := some 50) rfl rfl (by kernel_rfl) (by kernel_rfl) (by kernel_rfl) (fun _ _ _ h => h) (by rfl) hHeld ?_) | (refine' takeH (i := 26) (dst := some 50) (v := _) rfl rfl (by kernel_rfl) (by kernel_rfl) (by kernel_rfl) (fun _ _ _ h => h) (by rfl) ?hy hHeld ?_; case hy => (intro w hSw; clear hSw; (first | done | go_simp); try with_reducible rfl)) | fail
      try simp only [Act.put, List.setIfInBounds_toArray, List.set_cons_zero, List.set_cons_succ]
      first | (refine skipH (i := 28) (dst := some 52) rfl rfl (by kernel_rfl) (by kernel_rfl) (by kernel_rfl) (fun _ _ _ h => h) (by rfl) hHeld ?_) | (refine' takeH (i := 28) (dst := some 52) (v := _) rfl rfl (by kernel_rfl) (by kernel_rfl) (by kernel_rfl) (fun _ _ _ h => h) (by rfl) ?hy hHeld ?_; case hy => (intro w hSw; clear hSw; (first | done | go_simp); try with_reducible rfl)) | fail
      try simp only [Act.put, List.setIfInBounds_toArray, List.set_cons_zero, List.set_cons_succ]
      first | (refine skipH (i := 29) (dst := some 53) rfl rfl (by kernel_rfl) (by kernel_rfl) (by kernel_rfl) (fun _ _ _ h => h) (by rfl) hHeld ?_) | (refine' takeH (i := 29) (dst := some 53) (v := _) rfl rfl (by kernel_rfl) (by kernel_rfl) (by kernel_rfl) (fun _ _ _ h => h) (by rfl) ?hy hHeld ?_; case hy => (intro w hSw; clear hSw; (first | done | go_simp); try with_reducible rfl)) | fail
      try simp only [Act.put, List.setIfInBounds_toArray, List.set_cons_zero, List.set_cons_succ]
      first | (refine skipH (i := 30) (dst := some 54) rfl rfl (by kernel_rfl) (by kernel_rfl) (by kernel_rfl) (fun _ _ _ h => h) (by rfl) hHeld ?_) | (refine' takeH (i := 30) (dst := some 54) (v := _) rfl rfl (by kernel_rfl) (by kernel_rfl) (by kernel_rfl) (fun _ _ _ h => h) (by rfl) ?hy hHeld ?_; case hy => (intro w hSw; clear hSw; (first | done | go_simp); try with_reducible rfl)) | fail
      try simp only [Act.put, List.setIfInBounds_toArray, List.set_cons_zero, List.set_cons_succ]
      first | (refine skipH (i := 31) (dst := some 55) rfl rfl (by kernel_rfl) (by kernel_rfl) (by kernel_rfl) (fun _ _ _ h => h) (by rfl) hHeld ?_) | (refine' takeH (i := 31) (dst := some 55) (v := _) rfl rfl (by kernel_rfl) (by kernel_rfl) (by kernel_rfl) (fun _ _ _ h => h) (by rfl) ?hy hHeld ?_; case hy => (intro w hSw; obtain ⟨_, _, _, _, _⟩ := hSw; (first | done | go_simp); try with_reducible rfl)) | fail
      try simp only [Act.put, List.setIfInBounds_toArray, List.set_cons_zero, List.set_cons_succ]
      refine wpAnyH_ready (rs := [27]) (by kernel_rfl) (by simp) ?_
      refine AllReadyH.cons (i := 27) (o := ⟨some 51, .call _, _, _, _, _⟩) rfl (fun K hK => ?_) AllReadyH.nil
      go_simp
      refine (HFZ.out _ hHeld.2.2.2.2).mono ?_
      rintro e w8 ⟨rfl, rfl⟩
      have hH := hHeld
      refine hK.out _ _ hH (fun _ => ?_)
      clear hK K hHeld
      have hHeld := hH
      clear hH
      try simp only [Act.put, List.setIfInBounds_toArray, List.set_cons_zero, List.set_cons_succ]
      first | (refine skipH (i := 32) (dst := some 56) rfl rfl (by kernel_rfl) (by kernel_rfl) (by kernel_rfl) (fun _ _ _ h => h) (by rfl) hHeld ?_) | (refine' takeH (i := 32) (dst := some 56) (v := _) rfl rfl (by kernel_rfl) (by kernel_rfl) (by kernel_rfl) (fun _ _ _ h => h) (by rfl) ?hy hHeld ?_; case hy => (intro w hSw; clear hSw; (first | done | go_simp); try with_reducible rfl)) | fail
      try simp only [Act.put, List.setIfInBounds_toArray, List.set_cons_zero, List.set_cons_succ]
      first | (refine skipH (i := 33) (dst := some 57) rfl rfl (by kernel_rfl) (by kernel_rfl) (by kernel_rfl) (fun _ _ _ h => h) (by rfl) hHeld ?_) | (refine' takeH (i := 33) (dst := some 57) (v := _) rfl rfl (by kernel_rfl) (by kernel_rfl) (by kernel_rfl) (fun _ _ _ h => h) (by rfl) ?hy hHeld ?_; case hy => (intro w hSw; clear hSw; (first | done | go_simp); try with_reducible rfl)) | fail
      try simp only [Act.put, List.setIfInBounds_toArray, List.set_cons_zero, List.set_cons_succ]
      refine wpAnyH_done (by kernel_rfl) (NoPanic.normal ?_) _
      have B5 := Lib.hid (bt D3.out hHeld.2.2.2.2)
      have U1 := Lib.hid (T1.out.below hHeld.2.2.2.2)
      have U2 := Lib.hid (T2.out.below hHeld.2.2.2.2)
      have U3 := Lib.hid (own_belowK T3.out hHeld.2.2.2.2)
      have hszw : w3.heap.size ≤ w7.heap.size := hHeld.2.2.2.2.size
      clear hHeld HSC HSF HSN HFZ HCE Q3 T1 T2 T3 D3 hz
      have hn1 : (n1 : Int) ≤ 64 := by have := U1.out.1; have h2 := HP.out.c64; rw [this]; unfold Kr.plain; rw [List.length_map]; omega
      have hn2 : (n2 : Int) ≤ 64 := by have := U2.out.1; have h2 := HP.out.f64; rw [this]; unfold Kr.plain; rw [List.length_map]; omega
      have hn3 : (n3 : Int) ≤ 256 := by have := HN3.out; have h2 := HP.out.n256; omega
      have BW := Lib.hid (bt (bt BR.out B5.out) (grows' w7 (.cells #[.slice A1 n1 c1, .slice A2 n2 c2] 25)))
      have hBw : w.heap.size ≤ wr.heap.size := BR.out.size
      have HPI : Hid (PI (w7.alloc (.cells #[.slice A1 n1 c1, .slice A2 n2 c2] 25)) wr.heap.size (A1, n1, c1) (A2, n2, c2) (A3, n3, c3) w7.heap.size) := Lib.hid
        ⟨(Safe.of U1.out).below (grows' w7 _), ((Safe.of U2.out).mono hsz1).below (grows' w7 _), HAP.out, ⟨_, own_belowK (own_monoK U3.out hsz2) (grows' w7 _)⟩, ⟨(0, 0), heap_alloc_new w7 _⟩⟩
      clear U1 U2 U3 B5 HN3 hszw hsz1 hsz2
      go_wp2_with fail
      generalize w7.heap.size = gb at HPI ⊢
      generalize w7.alloc (.cells #[.slice A1 n1 c1, .slice A2 n2 c2] 25) = W at BW HPI ⊢
      generalize wr.heap.size = BB at HPI hBw
      go_loopw [62] (fun v62 wx => ∃ m : Nat, m ≤ 2 ∧ v62 = .int .i64 (m : Int) ∧ PI wx BB (A1, n1, c1) (A2, n2, c2) (A3, n3, c3) gb ∧ Below w.heap.size w wx) (fun v62 _ => 2 - (RowKit.intOf v62).toNat)
      case atStart => exact ⟨0, by omega, rfl, HPI.out, BW.out⟩
      case round =>
        clear HPI BW
        obtain ⟨m, hm, rfl, hpi, hbw⟩ := hrel
        have PX := Lib.hid hpi
        have BX := Lib.hid hbw
        clear hpi hbw
        by_cases hlm : m < 2
        · have m1 : (0 : Int) ≤ (m : Int) := by omega
          have m2 : (m : Int) < 2 := by omega
          obtain ⟨cur, hcell, hcur, hcn⟩ : ∃ cur : Sl, wr.cell? ⟨gb, m, none⟩ = some (slV cur) ∧ (cur = (A1, n1, c1) ∨ cur = (A2, n2, c2)) ∧ (cur.2.1 : Int) ≤ 64 := by
            obtain ⟨fr, hx⟩ := PX.out.bx
            rcases Nat.eq_zero_or_pos m with h0 | h0
            · subst h0
              exact ⟨_, by rw [Lib.cell_of_heap hx 0]; rfl, Or.inl rfl, hn1⟩
            · obtain rfl : m = 1 := by omega
              exact ⟨_, by rw [Lib.cell_of_heap hx 1]; rfl, Or.inr rfl, hn2⟩
          obtain ⟨A, nn, cc⟩ := cur
          replace hcell : wr.cell? ⟨gb, m, none⟩ = some (.slice A nn cc) := hcell
          replace hcn : (nn : Int) ≤ 64 := hcn
          have HCUR := Lib.hid hcur
          clear hcur
          go_wp2_with fail
          clear hcell
          go_loopw [11] (fun v11 wy => ∃ i : Nat, i ≤ nn ∧ v11 = .int .i64 (i : Int) ∧ PI wy BB (A1, n1, c1) (A2, n2, c2) (A3, n3, c3) gb ∧ Below w.heap.size w wy) (fun v11 _ => nn - (RowKit.intOf v11).toNat)
          case atStart => exact ⟨0, by omega, rfl, PX.out, BX.out⟩
          case round =>
            clear PX BX
            obtain ⟨i, hi, rfl, hpi, hbw⟩ := hrel
            have PY := Lib.hid hpi
            have BY := Lib.hid hbw
            clear hpi hbw
            by_cases hli : i < nn
            · have i1 : (0 : Int) ≤ (i : Int) := by omega
              have i2 : (i : Int) < (nn : Int) := by omega
              have hsafe : Safe wr BB (A, nn, cc) := by
                rcases HCUR.out with h | h
                · rw [h]; exact PY.out.sa
                · rw [h]; exact PY.out.sb
              obtain ⟨xs, hx1, hx2⟩ := hsafe
              obtain ⟨r, hr1, ys, hr2⟩ := hx2 i hli
              obtain ⟨ga, rfl, hga, _⟩ := own_shapeK (A := A) (c := cc) hx1 (by show 0 < nn; omega)
              obtain ⟨ra, rn, rc⟩ := r
              have hrn : (rn : Int) ≤ 9223372036854775807 := by
                rcases hr2.2 with ⟨_, h0⟩ | ⟨_, cap, _, _, _, _, h1, h2, _⟩
                · have : rn = 0 := h0
                  omega
                · have h3 : rn ≤ cap := h1
                  unfold maxLen at h2
                  omega
              have X1 : Hid (wr.ownsRow BB 30 7 (.slice (some ⟨ga, 0, none⟩) nn cc) nn xs) := Lib.hid hx1
              have R1' : Hid (xs[i * 7 + 3]? = some (.slice ra rn rc)) := Lib.hid hr1
              have Y1 : Hid (wr.ownsRow BB 9 1 (.slice ra rn rc) rn ys) := Lib.hid hr2
              clear hx1 hx2 hr1 hr2
              go_wp2_with fail
              go_loopw [12] (fun v12 wz => ∃ j : Nat, j ≤ rn ∧ v12 = .int .i64 (j : Int) ∧ PI wz BB (A1, n1, c1) (A2, n2, c2) (A3, n3, c3) gb ∧ Below w.heap.size w wz ∧ wz.ownsRow BB 30 7 (.slice (some ⟨ga, 0, none⟩) nn cc) nn xs ∧ ∃ ys, wz.ownsRow BB 9 1 (.slice ra rn rc) rn ys) (fun v12 _ => rn - (RowKit.intOf v12).toNat)
              case atStart => exact ⟨0, by omega, rfl, PY.out, BY.out, X1.out, ys, Y1.out⟩
              case round =>
                clear PY BY X1 Y1
                obtain ⟨j, hj, rfl, hpi, hbw, htop, ys, hown⟩ := hrel
                have PZ := Lib.hid hpi
                have BZ := Lib.hid hbw
                have XZ := Lib.hid htop
                have YZ := Lib.hid hown
                clear hpi hbw htop hown
                have e3 : wr.cell? ⟨ga, i * 7 + 3, none⟩ = some (.slice ra rn rc) := by
                  rw [XZ.out.cellAt (i * 7 + 3) (by omega)]
                  exact R1'.out
                by_cases hlj : j < rn
                · have j1 : (0 : Int) ≤ (j : Int) := by omega
                  have j2 : (j : Int) < (rn : Int) := by omega
                  obtain ⟨gi, rfl, hgi, _⟩ := own_shapeK YZ.out (by omega)
                  obtain ⟨u, hu⟩ : ∃ u, ys[j]? = some u := ⟨_, List.getElem?_eq_getElem (by rw [YZ.out.1]; omega)⟩
                  have t0 : wr.cell? ⟨gi, j, none⟩ = some u := by rw [YZ.out.cellAt j (by omega)]; exact hu
                  have t1 := YZ.out.frozenAt j
                  obtain ⟨_, _, hty⟩ := own_type (g := gi) YZ.out rfl
                  have HTY := Lib.hid hty
                  clear hty hu
                  go_wp2_with fail
                  go_roundw
                  case rel =>
                    refine ⟨j + 1, by omega, by go_num, PZ.out.text HTY.out, BZ.out.setCell (p := ⟨gi, j, none⟩) (Nat.le_trans hBw hgi) _, own_keptNe XZ.out (set_grown wr ⟨gi, j, none⟩ _) (fun e => ?_), own_text (r := (some ⟨gi, 0, none⟩, rn, rc)) YZ.out⟩
                    obtain ⟨_, _, h1⟩ := own_type XZ.out e
                    exact type_ne h1 HTY.out (by decide) rfl
                  case measure => simp [RowKit.intOf]; omega
                · have hge : decide ((j : Int) < (rn : Int)) = false := decide_eq_false (by omega)
                  have HTH := Lib.hid (there_any XZ.out i hli)
                  go_wp2_with (first | refine wpList_store_mid (op := ⟨none, .store 30 (.tmp 92) (.tmp 91), _, _, _, _⟩) rfl 30 (.tmp 92) (.tmp 91) rfl ga (i * 7) (⟨bare ⟨#[126]⟩⟩ : Array Value) rfl rfl HTH.out (by kernel_rfl) (by kernel_rfl) ?_)
                  go_roundw
                  case rel => exact ⟨i + 1, by omega, by go_num, PZ.out.card ⟨#[126]⟩ HCUR.out hli, below_sets _ _ BZ.out (Nat.le_trans hBw hga)⟩
                  case measure => simp [RowKit.intOf]; omega
            · have hge : decide ((i : Int) < (nn : Int)) = false := decide_eq_false (by omega)
              go_wp2_with fail
              go_roundw
              case rel => exact ⟨m + 1, by omega, by go_num, PY.out, BY.out⟩
              case measure => simp [RowKit.intOf]; omega
        · have hge : decide ((m : Int) < 2) = false := decide_eq_false (by omega)
          obtain ⟨zs, hzs⟩ := PX.out.nt
          have ZS : Hid (wr.ownsRow BB 78 4 (.slice A3 n3 c3) n3 zs) := Lib.hid hzs
          clear hzs PX
          go_wp2_with fail
          clear hge
          go_loopw [13] (fun v13 wy => ∃ i : Nat, i ≤ n3 ∧ v13 = .int .i64 (i : Int) ∧ Below w.heap.size w wy ∧ ∃ zs, wy.ownsRow BB 78 4 (.slice A3 n3 c3) n3 zs) (fun v13 _ => n3 - (RowKit.intOf v13).toNat)
          case atStart => exact ⟨0, by omega, rfl, BX.out, zs, ZS.out⟩
          case round =>
            clear BX ZS
            obtain ⟨i, hi, rfl, hbw, zs, hzs⟩ := hrel
            have BY := Lib.hid hbw
            have ZY := Lib.hid hzs
            clear hbw hzs
            by_cases hli : i < n3
            · have i1 : (0 : Int) ≤ (i : Int) := by omega
              have i2 : (i : Int) < (n3 : Int) := by omega
              obtain ⟨gn, rfl, hgn, _⟩ := own_shapeK ZY.out (by omega)
              have HTH := Lib.hid (there_any ZY.out i hli)
              go_wp2_with (first | refine wpList_store_mid (op := ⟨none, .store 78 (.tmp 103) (.tmp 102), _, _, _, _⟩) rfl 78 (.tmp 103) (.tmp 102) rfl gn (i * 4) (#[.string ⟨#[126]⟩, .int .i64 0, .int .i64 0, .int .i64 0] : Array Value) rfl rfl HTH.out (by kernel_rfl) (by kernel_rfl) ?_)
              go_roundw
              case rel => exact ⟨i + 1, by omega, by go_num, below_sets _ _ BY.out (Nat.le_trans hBw hgn), _, own_sets _ _ ZY.out⟩
              case measure => simp [RowKit.intOf]; omega
            · have hge : decide ((i : Int) < (n3 : Int)) = false := decide_eq_false (by omega)
              go_wp2_with fail
              go_roundw
              case rel => exact ⟨k + 1, by omega, by go_num, BY.out⟩
              case measure => simp [RowKit.intOf]; omega
    · have hge : decide ((k : Int) < 2) = false := decide_eq_false (by omega)
      go_wp2_with fail
      go_ret
      exact ⟨rfl, BR.out⟩
end Go.Proofs.Ytjafddkkndfphaa.Kq
