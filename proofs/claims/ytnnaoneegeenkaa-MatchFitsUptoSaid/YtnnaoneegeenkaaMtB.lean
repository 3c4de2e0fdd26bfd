/- The cards by their texts: the program's closest. -/
import Derived.Test.YtnnaoneegeenkaaMtA
import Derived.Test.YtnnaoneegeenkaaChC
import Derived.Deep.MidRow
import Derived.Maps.OwnSet
namespace Go.Proofs.Ytnnaoneegeenkaa.Mt
open Go.ChangeShapes Go.WideShapes Go.ChangeAt Go.RowKit Own Ro Kc wordsNames Go.Maps Go.WideMaps

def rdH (v : Value) : Option (DataW Value × List MemPlace) := some (.held v, [])
/-- 'v, ok := m[k]', the value written out. -/
theorem wpList_lookup_rd {P : Program} (w : World) {ops : Array Oper} {rest : List Oper} {o : Oper} {a : Act} {Q : Exit → Act → World → Prop}
    (hg : o.guard = none) (m x : Operand) (t : TypeId) (hop : o.op = Op.lookup t m x true)
    (k e : TypeId) (K : Keyed P k) (ht : P.underlying t = some (.map k e)) {z : Value} (hz : (zeroValue e).run P w = .ok z w) (b n : Nat) (D : DataW Value)
    (hm : a.eval m = .map (some b)) (hown : w.ownsMap P k rdH b n D) (key : Value) (kl : Lit) (hx : a.eval x = key) (hkey : keyOf P k key = some kl) (v0 : Value) (b0 : Bool)
    (hat : D.atKey kl (.held z) = .held v0) (hhas : Maps.has D kl = b0)
    (hK : wpList P ops Q rest (a.put o.dst (.tuple #[v0, .bool b0])) w) : wpList P ops Q (o :: rest) a w :=
  wpList_lookup_own_ok w hg m x t hop k e K ht rdH hz (.held z) [] rfl b n D hm hown key kl hx hkey (fun v ps hv => by
    rw [hat] at hv
    unfold rdH at hv
    injection hv with hv
    injection hv with hv _
    injection hv with hv
    rw [hv, hhas]
    exact hK)
theorem zeroI (w : World) : (zeroValue 3).run Try.prog w = .ok (.int .i64 0) w := by kernel_rfl
theorem map_belowH {w w' : World} {k : TypeId} {b n : Nat} {D : DataW Value} (h : w.ownsMap Try.prog k rdH b n D) (hb : Below w.heap.size w w') : w'.ownsMap Try.prog k rdH b n D := by
  have hlt := h.lt
  obtain ⟨es, clock, h1, h2⟩ := h
  exact ⟨es, clock, (hb.block b hlt).trans h1, h2⟩
section
variable {P : Program} {md : Region.Mode} {ops : Array Oper} {Q : Exit → Act → World → Prop} {S : World → Prop}
/-- A whole struct is read, out of a row. -/
theorem takeRowO {i : Nat} {oi : Oper} {dst : Option Nat} {fuel : Nat} {listed : Array Bool} {a : Act} {w : World} (cs : List Value) (b o : Nat) (ty : TypeId) (x : Operand) (d : TypeDesc) (hi : ops[i]? = some oi) (hd : oi.dst = dst)
    (hs : Region.noSelect ops = true) (hf : Region.free md ops listed i = true) (hr : (Region.ready md ops listed).contains i = true)
    (hQ : ∀ c a w, Q (.panic c) (a.put dst (.agg cs.toArray)) w → Q (.panic c) a w) (hw : Region.wanted oi (yielded ops a.tmps) = true) (ho : oi.op = .load ty x)
    (hx : a.eval x = .pointer (some ⟨b, o, none⟩)) (hc : ∀ w, S w → w.rangeAt b o cs) (hu : P.underlying ty = some d) (hdr : d.isRow = true) (hi' : (P.info? ty).map (·.size) = some cs.length) (hS : S w)
    (h : wpAnyH P md ops Q S fuel (listed.setIfInBounds i true) (a.put dst (.agg cs.toArray)) w) : wpAnyH P md ops Q S (fuel + 1) listed a w := by
  subst hd
  exact wpAnyH_take hi hs hf hr hQ (yieldsIf_load_mid hw ty x ho b o hx cs d hc hu hdr hi') hS h
end
theorem cell_kp' {W V : World} {lo hi b o : Nat} {u : Value} (h : W.cell? ⟨b, o, none⟩ = some u) (hk : Kp lo hi W V) (hb : hi ≤ b) : V.cell? ⟨b, o, none⟩ = some u := by
  rw [← h]
  exact World.cell?_of_block (hk.block b (World.block_lt_of_cell? W _ h) (.inr hb))
def row7 (a : Cd) (r : Sl) : List Value := [.string (str a.name), .string (str a.fam), .int .u8 a.level, slV r, .int .i8 a.score, .string (str a.quirk), .int .i16 a.entry]
theorem row7_cells (a : Cd) (r : Sl) : (row7 a r).toArray = cells7 a r := rfl
theorem isCloser_row (a b : Cd) (r s : Sl) (w : World) : Calls Try.prog 34 #[.agg (row7 a r).toArray, .agg (row7 b s).toArray] w fun e w' => e = .returned (.bool (closer a b)) ∧ Below w.heap.size w w' := isCloser_any a b r s w
/-- Cards that may be, in a list. -/
def AllOk (L : List Cd) : Prop := ∀ k, k < L.length → CardAt L k
theorem AllOk.len {L : List Cd} (h : AllOk L) : L.length ≤ 64 := by
  rcases Nat.eq_zero_or_pos L.length with h0 | h0
  · omega
  · have := (h (L.length - 1) (by omega)).1
    omega
def ClosestPost (L : List Cd) (w : World) (e : Ending) (w' : World) : Prop :=
  ∃ (D : DataW Value) (sz : Nat), e = .returned (.map (some w.heap.size)) ∧ w'.ownsMap Try.prog 9 rdH w.heap.size sz D ∧ sz ≤ 512 ∧ View D (best L L.length) ∧ w.heap.size + 1 ≤ w'.heap.size ∧ Below w.heap.size w w'
set_option maxRecDepth 100000 in
set_option maxHeartbeats 16000000 in
theorem closest_any (A : Option Addr) (c n : Nat) (L : List Cd) (R : List Sl) (w : World) (hok : AllOk L) (hs : Ro.RowsIn KC w A n L R) :
    Calls Try.prog 22 #[.slice A n c] w (ClosestPost L w) := by
  have hn : n = L.length := hs.1
  have hn64 : n ≤ 64 := by rw [hn]; exact hok.len
  have GA := Lib.hid hs
  have HOK := Lib.hid hok
  have HN := Lib.hid hn
  have hmm := @run_makeMap Try.prog
  have HB0 := Lib.hid (grows' w (.map #[] 0))
  have HM0 := Lib.hid (World.ownsMap_made w Try.prog 9 rdH)
  clear hok hs hn
  go_enter Try.func22, Try.ntmps22
  go_wp2_with fail
  go_loopw [13] (fun v13 wr => ∃ (i sz : Nat) (D : DataW Value), i ≤ n ∧ v13 = .int .i64 (i : Nat) ∧ wr.ownsMap Try.prog 9 rdH w.heap.size sz D ∧ sz ≤ i * 8 ∧ View D (best L i) ∧ w.heap.size + 1 ≤ wr.heap.size ∧ Below w.heap.size w wr) (fun v13 _ => n - (RowKit.intOf v13).toNat)
  case atStart => exact ⟨0, 0, .map [], by omega, rfl, HM0.out, Nat.le_refl _, View.none, by simp, HB0.out⟩
  case round =>
    clear HB0 HM0
    obtain ⟨i, sz, D, hi, rfl, hmap, hsz, hv, hgs, hbw⟩ := hrel
    have HM := Lib.hid hmap
    have HV := Lib.hid hv
    have BW := Lib.hid hbw
    clear hmap hv hbw
    by_cases hlt : i < n
    · have i1 : (0 : Int) ≤ (i : Int) := by omega
      have i2 : (i : Int) < (n : Int) := by omega
      have hco := HOK.out i (by rw [← HN.out]; exact hlt)
      obtain ⟨b0, o0, hA, hb0, hc, hlen, hin⟩ := GA.out.at hlt
      have HIN := Lib.hid (show CellsIn w 1 (R.getD i sl0).1 (R.getD i sl0).2.1 (Kc.strs (L.getD i cd0).compat) from hin)
      have HRK := Lib.hid (fun k (hk : k < n) => GA.out.at hk)
      have h8 : (L.getD i cd0).compat.length ≤ 8 := hco.2.1.2.2.2.1.2.1
      have HTX : Hid (∀ j, j < (L.getD i cd0).compat.length → ((L.getD i cd0).compat.getD j []).length ≤ 63) := Lib.hid (fun j hj => (hco.2.1.2.2.2.1.2.2 j hj).1.2.1)
      have hcw := fun j u hu => (BW.out.cell (p := ⟨b0, o0 + i * 7 + j, none⟩) hb0).trans (hc j u hu)
      have e0 : wr.cell? ⟨b0, o0 + i * 7, none⟩ = some (.string (str (L.getD i cd0).name)) := hcw 0 _ rfl
      have e1 : wr.cell? ⟨b0, o0 + i * 7 + 1, none⟩ = some (.string (str (L.getD i cd0).fam)) := hcw 1 _ rfl
      have e2 : wr.cell? ⟨b0, o0 + i * 7 + 2, none⟩ = some (.int .u8 (L.getD i cd0).level) := hcw 2 _ rfl
      have e3 : wr.cell? ⟨b0, o0 + i * 7 + 3, none⟩ = some (.slice (R.getD i sl0).1 (R.getD i sl0).2.1 (R.getD i sl0).2.2) := hcw 3 _ rfl
      have e4 : wr.cell? ⟨b0, o0 + i * 7 + 4, none⟩ = some (.int .i8 (L.getD i cd0).score) := hcw 4 _ rfl
      have e5 : wr.cell? ⟨b0, o0 + i * 7 + 5, none⟩ = some (.string (str (L.getD i cd0).quirk)) := hcw 5 _ rfl
      have e6 : wr.cell? ⟨b0, o0 + i * 7 + 6, none⟩ = some (.int .i16 (L.getD i cd0).entry) := hcw 6 _ rfl
      subst hA
      obtain ⟨wb, hwb, hsb, hbb, hxb⟩ := box_ex wr (L.getD i cd0) (R.getD i sl0)
      have HX := Lib.hid hxb
      have BB := Lib.hid (bt BW.out hbb)
      have MB := Lib.hid (map_belowH HM.out hbb)
      unfold cells7 at hwb
      simp only [slV] at hwb
      have HWB := Lib.hid hwb
      have hrn := Lib.hid (show (R.getD i sl0).2.1 = (L.getD i cd0).compat.length from hlen)
      have hgb : w.heap.size + 1 ≤ wb.heap.size := by omega
      clear hc hin hcw hxb hbb hwb hco hlen HM
      have HC3 := Lib.hid (fun W (hW : Below wb.heap.size wb W) => show W.cell? ⟨wr.heap.size, 3, none⟩ = some (.slice (R.getD i sl0).1 (R.getD i sl0).2.1 (R.getD i sl0).2.2) from HX.out W hW 3 _ rfl)
      generalize hd : L.getD i cd0 = d at *
      generalize R.getD i sl0 = r at *
      obtain ⟨ra, rn, rc⟩ := r
      dsimp only at e3 HIN HWB HC3 hrn
      have HD := Lib.hid hd
      clear hd
      go_upto_region 5 with (fail)
      rw [HWB.out]
      clear e0 e1 e2 e3 e4 e5 e6 HWB
      generalize hbx : wr.heap.size = bx at *
      clear hbx
      have f3 := HC3.out wb (Below.refl _ _)
      rw [hrn.out] at f3
      go_wp2_with fail
      clear f3
      go_loopw [21] (fun v21 wz => ∃ (j sz : Nat) (D : DataW Value), j ≤ d.compat.length ∧ v21 = .int .i64 (j : Nat) ∧ wz.ownsMap Try.prog 9 rdH w.heap.size sz D ∧ sz ≤ i * 8 + j ∧ View D (stepF L i j) ∧ Kp w.heap.size (w.heap.size + 1) wb wz ∧ Below w.heap.size w wz) (fun v21 _ => d.compat.length - (RowKit.intOf v21).toNat)
      case atStart => exact ⟨0, sz, D, by omega, rfl, MB.out, by omega, by rw [stepF_zero]; exact HV.out, Kp.refl _, BB.out⟩
      case round =>
        clear HV MB BB hsz
        obtain ⟨j, sz, D, hj, rfl, hmap, hsz, hv, hkp, hbz⟩ := hrel
        have HM := Lib.hid hmap
        have HV := Lib.hid hv
        have HK := Lib.hid hkp
        have BZ := Lib.hid hbz
        clear hmap hv hbz hkp
        by_cases hlj : j < d.compat.length
        · have j1 : (0 : Int) ≤ (j : Int) := by omega
          have j2 : (j : Int) < (d.compat.length : Int) := by omega
          have hle := HTX.out j hlj
          obtain ⟨tb, to_, rfl, htb, htc⟩ := HIN.out.at (by rw [hrn.out]; omega)
          have et : wr.cell? ⟨tb, to_ + j, none⟩ = some (.string (str (d.compat.getD j []))) := (BZ.out.cell (p := ⟨tb, to_ + j, none⟩) htb).trans (htc j _ (strs_at d.compat j hlj))
          have HKEY := Lib.hid (show keyOf Try.prog 9 (.string (str (d.compat.getD j []))) = some (.string (d.compat.getD j [])) from keyOf_string_mk Try.underlying9 (by rw [str_size]; unfold maxLen; omega))
          have HNX := Lib.hid (show stepF L i (j + 1) = fun x => if x = d.compat.getD j [] then upB L (stepF L i j x) i else stepF L i j x from by have := stepF_next L i j (by rw [HD.out]; exact hlj); rw [HD.out] at this; exact this)
          have HVX := Lib.hid (HV.out.2 (d.compat.getD j []))
          clear htc hle
          generalize hx : d.compat.getD j [] = x at et HKEY HNX HVX
          clear hx
          generalize hs : str x = S at et HKEY
          clear hs
          cases hf : stepF L i j x with
          | none =>
            have HAT := Lib.hid (HVX.2.2 hf)
            have HAS := Lib.hid (show Maps.has D (.string x) = false from by rw [HVX.1, hf]; rfl)
            have HPV := Lib.hid (show View (D.put (.string x) (.held (.int .i64 (i : Nat)))) (stepF L i (j + 1)) from by
              have q := HV.out.put x i
              rw [HNX.out]
              have e : (fun y => if y = x then upB L (stepF L i j y) i else stepF L i j y) = fun y => if y = x then some i else stepF L i j y := by
                funext y
                by_cases hy : y = x
                · rw [if_pos hy, if_pos hy, hy, hf]; rfl
                · rw [if_neg hy, if_neg hy]
              rw [e]
              exact q)
            clear hf HVX HNX
            go_wp2_with (at_lookup; refine wpList_lookup_rd _ rfl _ _ 58 rfl 9 3 nameLaw Try.underlying58 (zeroI _) w.heap.size sz D rfl HM.out _ _ rfl HKEY.out _ _ HAT.out HAS.out ?_)
            go_quiet (fail)
            go_wp2_with (at_mapUpdate; go_must (refine wpList_mapUpdate_own _ rfl _ _ _ 58 rfl 9 3 nameLaw Try.underlying58 rdH w.heap.size sz D rfl (map_belowH HM.out (below_dr (Below.refl _ _) _)) (by unfold maxLen; omega) (.string S) (.int .i64 (i : Nat)) _ rfl rfl HKEY.out (.held (.int .i64 (i : Nat))) [] rfl ?_); intro w10 hown10 hgrow10)
            have K10 := Lib.hid ((HK.out.below (below_dr (Below.refl _ _) nq)).grown hgrow10 (fun k hk => by cases hk; exact .inl ⟨Nat.le_refl _, Nat.lt_succ_self _⟩))
            have B10 := Lib.hid ((below_dr BZ.out nq).grown hgrow10 (below_dr BZ.out nq).size (fun j hj => by cases hj; exact Nat.le_refl _))
            go_roundw
            case rel => exact ⟨j + 1, sz + 1, _, by omega, by go_num, hown10, by omega, HPV.out, K10.out, B10.out⟩
            case measure => simp [RowKit.intOf]; omega
          | some k =>
            have hki := stepF_lt L i j x k hf
            have k1 : (0 : Int) ≤ (k : Int) := by omega
            have k2 : (k : Int) < (n : Int) := by omega
            obtain ⟨bk, ok, hAk, hbk, hck, _, _⟩ := HRK.out k (by omega)
            injection hAk with hAk
            injection hAk with hA1 hA2
            subst hA1 hA2
            have HAT := Lib.hid (HVX.2.1 k hf)
            have HAS := Lib.hid (show Maps.has D (.string x) = true from by rw [HVX.1, hf]; rfl)
            have HS : Hid (∀ W, Below wr.heap.size wr W → (W.rangeAt bx 0 (row7 d (some ⟨tb, to_, none⟩, rn, rc)) ∧ W.rangeAt b0 (o0 + k * 7) (row7 (L.getD k cd0) (R.getD k sl0))) ∧ Below wr.heap.size wr W) := Lib.hid (fun W hW => ⟨⟨fun q v hv => by
              rw [Nat.zero_add]
              exact cell_kp' (HX.out wb (Below.refl _ _) q v (by rw [← row7_cells]; simpa using hv)) (HK.out.below hW) hgs, fun q v hv => ((bt BZ.out hW).cell (p := ⟨b0, o0 + k * 7 + q, none⟩) hbk).trans (hck q v hv)⟩, hW⟩)
            have HCL := Lib.hid (fun W => isCloser_row d (L.getD k cd0) (some ⟨tb, to_, none⟩, rn, rc) (R.getD k sl0) W)
            have HFT : Hid (closer d (L.getD k cd0) = true → (fun y => if y = x then upB L (stepF L i j y) i else stepF L i j y) = fun y => if y = x then some i else stepF L i j y) := Lib.hid (fun h => by
              funext y
              by_cases hy : y = x
              · rw [if_pos hy, if_pos hy, hy, hf]
                show (if closer (L.getD i cd0) (L.getD k cd0) then some i else some k) = some i
                rw [HD.out, if_pos h]
              · rw [if_neg hy, if_neg hy])
            have HFF : Hid (closer d (L.getD k cd0) = false → (fun y => if y = x then upB L (stepF L i j y) i else stepF L i j y) = stepF L i j) := Lib.hid (fun h => by
              funext y
              by_cases hy : y = x
              · rw [if_pos hy, hy, hf]
                show (if closer (L.getD i cd0) (L.getD k cd0) then some i else some k) = some k
                rw [HD.out, if_neg (by rw [h]; simp)]
              · rw [if_neg hy])
            clear hf HVX hck
            generalize closer d (L.getD k cd0) = g at HCL HFT HFF
            generalize row7 (L.getD k cd0) (R.getD k sl0) = rk at HS HCL
            generalize row7 d (some ⟨tb, to_, none⟩, rn, rc) = rd9 at HS HCL
            go_wp2_with (at_lookup; refine wpList_lookup_rd _ rfl _ _ 58 rfl 9 3 nameLaw Try.underlying58 (zeroI _) w.heap.size sz D rfl HM.out _ _ rfl HKEY.out _ _ HAT.out HAS.out ?_)
            refine wp_region_noPanic ?_
            refine wp_region_held_drew (S := fun W : World => (W.rangeAt bx 0 rd9 ∧ W.rangeAt b0 (o0 + k * 7) rk) ∧ Below wr.heap.size wr W) (by kernel_rfl) (HS.out _ (below_dr (Below.refl _ _) 1)) (fun hHeld => ?_)
            first | (refine skipH (i := 0) (dst := some 31) rfl rfl (by kernel_rfl) (by kernel_rfl) (by kernel_rfl) (fun _ _ _ h => h) (by rfl) hHeld ?_) | (refine' takeH (i := 0) (dst := some 31) (v := _) rfl rfl (by kernel_rfl) (by kernel_rfl) (by kernel_rfl) (fun _ _ _ h => h) (by rfl) ?hy hHeld ?_; case hy => (intro w hSw; clear hSw; (first | done | go_simp); try with_reducible rfl)) | fail
            try simp only [Act.put, List.setIfInBounds_toArray, List.set_cons_zero, List.set_cons_succ]
            first | (refine skipH (i := 1) (dst := some 32) rfl rfl (by kernel_rfl) (by kernel_rfl) (by kernel_rfl) (fun _ _ _ h => h) (by rfl) hHeld ?_) | (refine' takeH (i := 1) (dst := some 32) (v := _) rfl rfl (by kernel_rfl) (by kernel_rfl) (by kernel_rfl) (fun _ _ _ h => h) (by rfl) ?hy hHeld ?_; case hy => (intro w hSw; clear hSw; (first | done | go_simp); try with_reducible rfl)) | fail
            try simp only [Act.put, List.setIfInBounds_toArray, List.set_cons_zero, List.set_cons_succ]
            first | (refine skipH (i := 2) (dst := some 33) rfl rfl (by kernel_rfl) (by kernel_rfl) (by kernel_rfl) (fun _ _ _ h => h) (by rfl) hHeld ?_) | (refine' takeH (i := 2) (dst := some 33) (v := _) rfl rfl (by kernel_rfl) (by kernel_rfl) (by kernel_rfl) (fun _ _ _ h => h) (by rfl) ?hy hHeld ?_; case hy => (intro w hSw; clear hSw; (first | done | go_simp); try with_reducible rfl)) | fail
            try simp only [Act.put, List.setIfInBounds_toArray, List.set_cons_zero, List.set_cons_succ]
            refine takeRowO (i := 3) (dst := some 34) rd9 bx 0 37 _ _ rfl rfl (by kernel_rfl) (by kernel_rfl) (by kernel_rfl) (fun _ _ _ h => h) (by rfl) rfl rfl (fun w hw => hw.1.1) Try.underlying37 rfl (by kernel_rfl) hHeld ?_
            try simp only [Act.put, List.setIfInBounds_toArray, List.set_cons_zero, List.set_cons_succ]
            first | (refine skipH (i := 4) (dst := some 35) rfl rfl (by kernel_rfl) (by kernel_rfl) (by kernel_rfl) (fun _ _ _ h => h) (by rfl) hHeld ?_) | (refine' takeH (i := 4) (dst := some 35) (v := _) rfl rfl (by kernel_rfl) (by kernel_rfl) (by kernel_rfl) (fun _ _ _ h => h) (by rfl) ?hy hHeld ?_; case hy => (intro w hSw; clear hSw; (first | done | go_simp); try with_reducible rfl)) | fail
            try simp only [Act.put, List.setIfInBounds_toArray, List.set_cons_zero, List.set_cons_succ]
            first | (refine skipH (i := 5) (dst := some 36) rfl rfl (by kernel_rfl) (by kernel_rfl) (by kernel_rfl) (fun _ _ _ h => h) (by rfl) hHeld ?_) | (refine' takeH (i := 5) (dst := some 36) (v := _) rfl rfl (by kernel_rfl) (by kernel_rfl) (by kernel_rfl) (fun _ _ _ h => h) (by rfl) ?hy hHeld ?_; case hy => (intro w hSw; clear hSw; (first | done | go_simp); try with_reducible rfl)) | fail
            try simp only [Act.put, List.setIfInBounds_toArray, List.set_cons_zero, List.set_cons_succ]
            first | (refine skipH (i := 6) (dst := some 37) rfl rfl (by kernel_rfl) (by kernel_rfl) (by kernel_rfl) (fun _ _ _ h => h) (by rfl) hHeld ?_) | (refine' takeH (i := 6) (dst := some 37) (v := _) rfl rfl (by kernel_rfl) (by kernel_rfl) (by kernel_rfl) (fun _ _ _ h => h) (by rfl) ?hy hHeld ?_; case hy => (intro w hSw; clear hSw; (first | done | go_simp); try with_reducible rfl)) | fail
            try simp only [Act.put, List.setIfInBounds_toArray, List.set_cons_zero, List.set_cons_succ]
            refine takeRowO (i := 7) (dst := some 38) rk b0 (o0 + k * 7) 37 _ _ rfl rfl (by kernel_rfl) (by kernel_rfl) (by kernel_rfl) (fun _ _ _ h => h) (by rfl) rfl rfl (fun w hw => hw.1.2) Try.underlying37 rfl (by kernel_rfl) hHeld ?_
            try simp only [Act.put, List.setIfInBounds_toArray, List.set_cons_zero, List.set_cons_succ]
            refine wpAnyH_ready (rs := [8]) (by kernel_rfl) (by simp) ?_
            refine AllReadyH.cons (i := 8) (o := ⟨some 39, .call _, _, _, _, _⟩) rfl (fun K hK => ?_) AllReadyH.nil
            go_simp
            refine (HCL.out _).mono ?_
            rintro e w8 ⟨rfl, hb8⟩
            have B8 := Lib.hid (bt hHeld.2 hb8)
            have hH := HS.out w8 B8.out
            clear hb8 HCL
            refine hK.out _ _ hH (fun _ => ?_)
            clear hK K hHeld
            have hHeld := hH
            clear hH
            try simp only [Act.put, List.setIfInBounds_toArray, List.set_cons_zero, List.set_cons_succ]
            first | (refine skipH (i := 9) (dst := some 40) rfl rfl (by kernel_rfl) (by kernel_rfl) (by kernel_rfl) (fun _ _ _ h => h) (by rfl) hHeld ?_) | (refine' takeH (i := 9) (dst := some 40) (v := _) rfl rfl (by kernel_rfl) (by kernel_rfl) (by kernel_rfl) (fun _ _ _ h => h) (by rfl) ?hy hHeld ?_; case hy => (intro w hSw; clear hSw; (first | done | go_simp); try with_reducible rfl)) | fail
            try simp only [Act.put, List.setIfInBounds_toArray, List.set_cons_zero, List.set_cons_succ]
            refine wpAnyH_done (by kernel_rfl) (NoPanic.normal ?_) _
            clear hHeld
            have M8 := Lib.hid (map_belowH HM.out B8.out)
            have K8 := Lib.hid (HK.out.below B8.out)
            have Z8 := Lib.hid (bt BZ.out B8.out)
            cases g with
            | true =>
              have HPV := Lib.hid (show View (D.put (.string x) (.held (.int .i64 (i : Nat)))) (stepF L i (j + 1)) from by
                have q := HV.out.put x i
                rw [HNX.out, HFT.out rfl]
                exact q)
              clear HFT HFF HNX
              go_wp2_with (at_mapUpdate; go_must (refine wpList_mapUpdate_own _ rfl _ _ _ 58 rfl 9 3 nameLaw Try.underlying58 rdH w.heap.size sz D rfl M8.out (by unfold maxLen; omega) (.string S) (.int .i64 (i : Nat)) _ rfl rfl HKEY.out (.held (.int .i64 (i : Nat))) [] rfl ?_); intro w10 hown10 hgrow10)
              have K10 := Lib.hid (K8.out.grown hgrow10 (fun k hk => by cases hk; exact .inl ⟨Nat.le_refl _, Nat.lt_succ_self _⟩))
              have B10 := Lib.hid (Z8.out.grown hgrow10 Z8.out.size (fun j hj => by cases hj; exact Nat.le_refl _))
              go_roundw
              case rel => exact ⟨j + 1, sz + 1, _, by omega, by go_num, hown10, by omega, HPV.out, K10.out, B10.out⟩
              case measure => simp [RowKit.intOf]; omega
            | false =>
              have HPV := Lib.hid (show View D (stepF L i (j + 1)) from by
                rw [HNX.out, HFF.out rfl]
                exact HV.out)
              clear HFT HFF HNX
              go_wp2_with fail
              go_roundw
              case rel => exact ⟨j + 1, sz, D, by omega, by go_num, M8.out, by omega, HPV.out, K8.out, Z8.out⟩
              case measure => simp [RowKit.intOf]; omega
        · have HJ := Lib.hid (show j = d.compat.length by omega)
          have zj : ¬ (j : Int) < (d.compat.length : Int) := by omega
          have HPV := Lib.hid (show View D (best L (i + 1)) from by
            rw [← stepF_end L i j (by rw [HD.out]; omega)]
            exact HV.out)
          have hz9 : sz ≤ (i + 1) * 8 := by omega
          have hg9 := BZ.out.size
          have hg8 := HK.out.size
          go_wp2_with fail
          go_roundw
          case rel => exact ⟨i + 1, sz, D, by omega, by go_num, HM.out, by omega, HPV.out, by omega, BZ.out⟩
          case measure => simp [RowKit.intOf]; omega
    · obtain rfl : i = n := by omega
      go_wp2_with fail
      go_ret
      exact ⟨D, sz, rfl, HM.out, by omega, by rw [← HN.out]; exact HV.out, hgs, BW.out⟩
end Go.Proofs.Ytnnaoneegeenkaa.Mt
