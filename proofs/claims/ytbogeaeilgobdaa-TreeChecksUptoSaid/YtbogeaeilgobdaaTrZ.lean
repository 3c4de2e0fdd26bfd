/- The law TreeChecks, walked. -/
import Derived.Test.YtbogeaeilgobdaaTrY
import Derived.RegionTactic
namespace Go.Proofs.Ytbogeaeilgobdaa.Tr
open Go.ChangeShapes Go.WideShapes Go.ChangeAt Go.RowKit Own wordsNames

theorem NodesOwn.mono' {w y : World} {base : Nat} {A : Option Addr} {n c : Nat} {L : List Nd} {R : List Sl} (h : NodesOwn w base A n c L R) (hb : y.heap.size ≤ base) : NodesOwn w y.heap.size A n c L R := ⟨h.1, own_monoK h.2.1 hb, h.2.2.1, fun i hi => own_monoK (h.2.2.2.1 i hi) hb, h.2.2.2.2⟩
theorem app_b (x : List UInt8) : str x ++ (⟨#[98]⟩ : ByteArray) = str (x ++ [98]) := bytes_ext (by rw [str_list]; simp [str])
theorem putName_other (L : List Nd) (i k : Nat) (nm : List UInt8) (hi : i < L.length) (hk : k < (L.getD i nd0).props.length) (p : Nat) (hp : p ≠ k) : ((putName L i k nm).getD i nd0).props.getD p ([], []) = (L.getD i nd0).props.getD p ([], []) := by
  unfold putName
  rw [getD_set _ _ _ _ _ hi, if_pos rfl]
  show ((L.getD i nd0).props.set k _).getD p _ = _
  rw [getD_set _ _ _ _ _ hk, if_neg hp]
set_option maxRecDepth 100000 in
set_option maxHeartbeats 8000000 in
theorem walkChecks (A B : Option Addr) (ca cb na nb : Nat) (La Lb : List Nd) (Ra Rb : List Sl) (y : World) (hma : Upto 1048576 La) (hmb : Upto 1048576 Lb) (hwf : Wf La) (hneat : ∀ k, Neat (Ra.getD k sl0)) (hA : NodesIn y A na La Ra) (hB : NodesIn y B nb Lb Rb) :
    Calls Try.prog 3 #[.slice A na ca, .slice B nb cb] y fun e w' => e = .returned (.bool true) ∧ Below y.heap.size y w' := by
  have HMA := Lib.hid hma
  have HWF := Lib.hid hwf
  have GA := Lib.hid hA
  have GB := Lib.hid hB
  have MA := Lib.hid (hma.mild (by omega))
  have MB := Lib.hid (hmb.mild (by omega))
  have HTW := Lib.hid fun (W : World) (hW : Below y.heap.size y W) => twin_any A ca na La Ra W MA.out (hA.below hW) hneat
  obtain ⟨i0, er, hch⟩ := chk_ex La
  obtain ⟨g, hg⟩ := bool_ex (La = Lb)
  have HCH := Lib.hid hch
  have HG := Lib.hid hg
  have HRC := Lib.hid fun (W : World) (hW : Below y.heap.size y W) => refCheck_any A ca na La Ra i0 er W hch MA.out (hA.below hW)
  have HRS := Lib.hid fun (W : World) (hW : Below y.heap.size y W) => refSame_any A B ca cb na nb La Lb Ra Rb g W hg MA.out MB.out (hA.below hW) (hB.below hW)
  have t1 : ((i0 : Int) != (i0 : Int)) = false := by simp
  have t2 : (er != er) = false := by simp
  have t3 : (g != g) = false := by simp
  clear hma hmb hwf hneat hA hB hch hg
  go_enter Try.func3, Try.ntmps3
  go_wp2_with fail
  refine (HTW.out _ (Below.refl _ _)).mono ?_
  rintro e w1 ⟨A1, c1, n, R, rfl, hno, hb1⟩
  have HN1 := Lib.hid hno
  have HB1 := Lib.hid hb1
  clear hno hb1
  go_wp2_with fail
  refine (treeCheck_any A1 c1 n La R i0 er w1 HCH.out MA.out HWF.out (fun k => (HN1.out.neat k).2) HN1.out.nodes).mono ?_
  rintro e w2 ⟨rfl, hb2⟩
  have HN2 := Lib.hid (HN1.out.below hb2)
  have HB2 := Lib.hid (bt HB1.out hb2)
  clear hb2 HN1 HB1
  go_wp2_with fail
  refine (HRC.out _ HB2.out).mono ?_
  rintro e w3 ⟨rfl, hb3⟩
  have HN3 := Lib.hid (HN2.out.below hb3)
  have HB3 := Lib.hid (bt HB2.out hb3)
  clear hb3 HN2 HB2
  go_wp2_with fail
  refine (refSame_any A1 A c1 ca n na La La R Ra true w3 ⟨fun _ => rfl, fun _ => rfl⟩ MA.out MA.out HN3.out.nodes (GA.out.below HB3.out)).mono ?_
  rintro e w4 ⟨rfl, q4, rfl⟩
  have b4 := below_dr (Below.refl w3.heap.size w3) q4
  generalize w3.drewN q4 = w4 at b4 ⊢
  have HN4 := Lib.hid (HN3.out.below b4)
  have HB4 := Lib.hid (bt HB3.out b4)
  clear b4 HN3 HB3
  go_wp2_with fail
  refine (tSame_any A1 B c1 cb n nb La Lb R Rb g w4 HG.out MA.out MB.out HN4.out.nodes (GB.out.below HB4.out)).mono ?_
  rintro e w5 ⟨rfl, b5⟩
  have HN5 := Lib.hid (HN4.out.below b5)
  have HB5 := Lib.hid (bt HB4.out b5)
  clear b5 HN4 HB4
  go_wp2_with fail
  refine (HRS.out _ HB5.out).mono ?_
  rintro e w6 ⟨rfl, q6, rfl⟩
  have b6 := below_dr (Below.refl w5.heap.size w5) q6
  generalize w5.drewN q6 = w6 at b6 ⊢
  have HN6 := Lib.hid (HN5.out.below b6)
  have HB6 := Lib.hid (bt HB5.out b6)
  clear b6 HN5 HB5
  go_wp2_with fail
  refine (HTW.out _ HB6.out).mono ?_
  rintro e w7 ⟨A7, c7, n7, R7, rfl, hno7, b7⟩
  have HN7 := Lib.hid (HN6.out.below b7)
  have HB7 := Lib.hid (bt HB6.out b7)
  have HT7 := Lib.hid hno7
  clear b7 HN6 HB6 hno7
  go_wp2_with fail
  refine (tSame_any A1 A7 c1 c7 n n7 La La R R7 true w7 ⟨fun _ => rfl, fun _ => rfl⟩ MA.out MA.out HN7.out.nodes HT7.out.nodes).mono ?_
  rintro e w8 ⟨rfl, b8⟩
  have HN8 := Lib.hid (HN7.out.below b8)
  have HB8 := Lib.hid (bt HB7.out b8)
  have hnb : n ≤ 1048576 := by have := HN7.out.1; have := HMA.out.1; omega
  clear b8 HN7 HB7 HT7
  go_wp2_with fail
  go_loopw [10] (fun v10 wr => ∃ (i : Nat) (L : List Nd), i ≤ n ∧ v10 = .int .i64 i ∧ NodesOwn wr y.heap.size A1 n c1 L R ∧ Upto (1048576 + i) L ∧ Wf L ∧ Below y.heap.size y wr) (fun v10 _ => n - (RowKit.intOf v10).toNat)
  case atStart => exact ⟨0, La, by omega, rfl, HN8.out, HMA.out, HWF.out, HB8.out⟩
  case round =>
    clear HN8 HB8
    obtain ⟨i, L, hi, rfl, hno, hup, hwf, hbw⟩ := hrel
    have HN := Lib.hid hno
    have HU := Lib.hid hup
    have HW := Lib.hid hwf
    have HB := Lib.hid hbw
    clear hno hup hwf hbw
    by_cases hlt : i < n
    · obtain ⟨gb, rfl, hg1, hg2, e0, e2, hf, hst⟩ := HN.out.cells hlt
      have f0 := hf (i * 3)
      have HR : Hid (∃ r, R.getD i sl0 = r) := Lib.hid ⟨_, rfl⟩
      obtain ⟨⟨ra, rn, rc⟩, hr⟩ := HR.out
      have HR2 := Lib.hid hr
      have HRN : Hid (rn ≤ 1048576) := Lib.hid (by
        have h1 := HN.out.2.2.2.1 i (by rw [HN.out.2.2.1, ← HN.out.1]; exact hlt)
        have h2 := h1.1
        rw [propsV_len, hr] at h2
        have h3 := (HU.out.2 i).2.1
        show rn ≤ _
        have h4 : (L.getD i nd0).props.length * 2 = rn * 2 := h2
        omega)
      have hiL : i < L.length := by rw [← HN.out.1]; exact hlt
      have HS := Lib.hid fun (z : Int) (hz : (Lit.int .i64 z).wf = true) => (⟨hst z, HU.out.parent hiL z, HW.out.parent hiL hz⟩ : NodesOwn _ _ _ _ _ (putParent L i z) R ∧ Upto (1048576 + i) (putParent L i z) ∧ Wf (putParent L i z))
      have HBS := Lib.hid fun (u : Value) => HB.out.setCell (p := ⟨gb, i * 3, none⟩) hg1 u
      clear hf hst hr HR
      generalize (L.getD i nd0).parent = pa at e0
      have k1 : (0 : Int) ≤ (i : Int) := by omega
      have k2 : (i : Int) < (n : Int) := by omega
      go_wp2_with fail
      obtain ⟨hs1, hs2, hs3⟩ := HS.out (wrap64 (pa + (i : Int) % 2)) (wrap64_wf _)
      have hs4 := HBS.out (.int .i64 (wrap64 (pa + (i : Int) % 2)))
      generalize wr.setCell ⟨gb, i * 3, none⟩ (.int .i64 (wrap64 (pa + (i : Int) % 2))) = w9 at hs1 hs4 ⊢
      generalize putParent L i (wrap64 (pa + (i : Int) % 2)) = L9 at hs1 hs2 hs3
      have HS1 := Lib.hid hs1
      have HS2 := Lib.hid hs2
      have HS3 := Lib.hid hs3
      have HS4 := Lib.hid hs4
      clear hs1 hs2 hs3 hs4 HS HBS HN HU HW HB e0 e2 f0 hiL
      have hrn := HRN.out
      go_loopw [11] (fun v11 wi => ∃ (k : Nat) (L2 : List Nd), k ≤ rn ∧ v11 = .int .i64 k ∧ NodesOwn wi y.heap.size (some ⟨gb, 0, none⟩) n c1 L2 R ∧ Upto (1048576 + i + 1) L2 ∧ (∀ p, k ≤ p → ((L2.getD i nd0).props.getD p ([], [])).1.length ≤ 1048576 + i) ∧ Wf L2 ∧ Below y.heap.size y wi) (fun v11 _ => rn - (RowKit.intOf v11).toNat)
      case atStart => exact ⟨0, L9, by omega, rfl, HS1.out, HS2.out.more (by omega), fun p _ => ((HS2.out.2 i).2.2 p).1, HS3.out, HS4.out⟩
      case round =>
        clear HS1 HS2 HS3 HS4
        obtain ⟨k, L2, hk, rfl, hno, hup, hps, hwf, hbw⟩ := hrel
        have HN := Lib.hid hno
        have HU := Lib.hid hup
        have HP := Lib.hid hps
        have HW := Lib.hid hwf
        have HB := Lib.hid hbw
        clear hno hup hps hwf hbw
        obtain ⟨gb', hA', _, _, _, e2, _, _⟩ := HN.out.cells hlt
        injection hA' with hA'
        injection hA' with hA'
        subst hA'
        rw [HR2.out] at e2
        simp only at e2
        by_cases hkl : k < rn
        · obtain ⟨g2, hA2, hb2, hg22, hkp, e3, f3, hst⟩ := HN.out.props hlt (k := k) (by rw [HR2.out]; exact hkl)
          rw [HR2.out] at hA2
          replace hA2 : ra = some ⟨g2, 0, none⟩ := hA2
          subst hA2
          have f4 := f3 (k * 2)
          have hiL : i < L2.length := by rw [← HN.out.1]; exact hlt
          have hlen := HP.out k (Nat.le_refl _)
          have HPN := Lib.hid fun (nm : List UInt8) => putName_other L2 i k nm hiL hkp
          have HUN := Lib.hid fun (nm : List UInt8) (h : nm.length ≤ 1048576 + i + 1) => HU.out.putName hiL hkp h
          have HST := Lib.hid hst
          clear f3 hst hkp
          generalize ((L2.getD i nd0).props.getD k ([], [])).1 = x at e3 hlen
          have HTS := Lib.hid (app_b x)
          have htz : (str x).size ≤ 2097152 := by rw [str_size]; omega
          generalize str x = T0 at e3 HTS htz
          have htz2 : ¬ 9223372036854775807 < T0.size + 2 := by omega
          have htz1 : ¬ 9223372036854775807 < T0.size + 1 := by omega
          have i1 : (0 : Int) ≤ (k : Int) := by omega
          have i2 : (k : Int) < (rn : Int) := by omega
          go_wp2_with fail
          go_region
          all_goals
            have hs1 := HST.out (x ++ [98])
            rw [← HTS.out] at hs1
            have HS1 := Lib.hid hs1
            have HS2 := Lib.hid (HUN.out (x ++ [98]) (by simp; omega))
            have HS3 := Lib.hid (HW.out.putName (k := k) hiL (x ++ [98]))
            have HS4 := Lib.hid (HB.out.setCell (p := ⟨g2, k * 2, none⟩) hb2 (.string (T0 ++ ⟨#[98]⟩)))
            have HS5 := Lib.hid fun (p : Nat) (h : k + 1 ≤ p) => (by rw [HPN.out (x ++ [98]) p (by omega)]; exact HP.out p (by omega) : (((putName L2 i k (x ++ [98])).getD i nd0).props.getD p ([], [])).1.length ≤ 1048576 + i)
            clear hs1
            go_wp2_with fail
            go_roundw
            case rel => exact ⟨k + 1, putName L2 i k (x ++ [98]), by omega, by go_num, HS1.out, HS2.out, HS5.out, HS3.out, below_dr HS4.out 1⟩
            case measure => simp [RowKit.intOf]; omega
        · obtain rfl : rn = k := by omega
          go_wp2_with fail
          go_roundw
          case rel => exact ⟨i + 1, L2, by omega, by go_num, HN.out, HU.out.more (by omega), HW.out, HB.out⟩
          case measure => simp [RowKit.intOf]; omega
    · obtain rfl : n = i := by omega
      obtain ⟨i2, er2, hch2⟩ := chk_ex L
      have HCH2 := Lib.hid hch2
      have ML := Lib.hid (HU.out.mild (by omega))
      have s1 : ((i2 : Int) == (i2 : Int)) = true := by simp
      have s2 : (er2 == er2) = true := by simp
      clear hch2 t1 t2 t3
      go_wp2_with fail
      refine (treeCheck_any A1 c1 n L R i2 er2 wr HCH2.out ML.out HW.out (fun k => (HN.out.neat k).2) HN.out.nodes).mono ?_
      rintro e w10 ⟨rfl, b10⟩
      have HN10 := Lib.hid (HN.out.below b10)
      have HB10 := Lib.hid (bt HB.out b10)
      clear b10
      go_wp2_with fail
      refine (twin_any A1 c1 n L R w10 ML.out HN10.out.nodes (fun k => (HN10.out.neat k).1)).mono ?_
      rintro e w11 ⟨A9, c9, n9, R9, rfl, hno9, b11⟩
      have HN11 := Lib.hid hno9
      have HB11 := Lib.hid (bt HB10.out b11)
      clear hno9 b11
      go_wp2_with fail
      refine (refCheck_any A9 c9 n9 L R9 i2 er2 w11 HCH2.out ML.out HN11.out.nodes).mono ?_
      rintro e w12 ⟨rfl, b12⟩
      have HB12 := Lib.hid (bt HB11.out b12)
      clear b12
      go_wp2_with fail
      go_ret
      exact ⟨rfl, HB12.out⟩
end Go.Proofs.Ytbogeaeilgobdaa.Tr
