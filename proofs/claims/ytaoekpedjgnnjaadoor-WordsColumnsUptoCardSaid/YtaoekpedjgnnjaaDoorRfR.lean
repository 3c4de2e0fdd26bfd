/- The contract of the document's runes. -/
import Derived.Test.YtaoekpedjgnnjaaDoorRfS
namespace Go.Proofs.YtaoekpedjgnnjaaDoor.Wd
open Go.ChangeShapes Go.WideShapes Go.ChangeAt Go.RowKit Own Bld Go.Lib Nums

theorem dec_w4 (l : List UInt8) (hne : l ≠ []) : (decodeL l).2 ≤ 4 := by
  by_cases hv : (decodeL l).1 = 65533 ∧ (decodeL l).2 = 1
  · omega
  · exact (decode_fits hne hv).2.1
theorem pcs_ok : ∀ (n : Nat) (l : List UInt8), l.length ≤ n → ∀ p ∈ pcsW l, 1 ≤ p.1.length ∧ p.1.length ≤ 4 ∧ -1 ≤ p.2 ∧ p.2 ≤ 1114111
  | 0, l, h => by
    rw [List.eq_nil_of_length_eq_zero (by omega : l.length = 0)]
    intro p hp
    exact absurd hp (by simp [pcsW, pcsF])
  | n + 1, l, h => by
    by_cases hl : l = []
    · subst hl
      intro p hp
      exact absurd hp (by simp [pcsW, pcsF])
    · have hd := drop_less l hl
      rw [pcsW_step l hl]
      intro p hp
      rcases List.mem_cons.1 hp with rfl | hp
      · have h1 := part_len l hl
        have h2 := decodeL_width l
        have h3 := dec_w4 l hl
        have h4 := decodeL_rune l
        refine ⟨by show 1 ≤ (l.take _).length; omega, by show (l.take _).length ≤ 4; omega, ?_, ?_⟩
        · show -1 ≤ pr l
          unfold pr
          split <;> omega
        · show pr l ≤ 1114111
          unfold pr
          split <;> omega
      · exact pcs_ok n (l.drop (decodeL l).2) (by omega) p hp
theorem pcs_len : ∀ (n : Nat) (l : List UInt8), l.length ≤ n → (pcsW l).length ≤ l.length
  | 0, l, h => by
    rw [List.eq_nil_of_length_eq_zero (by omega : l.length = 0)]
    exact Nat.zero_le _
  | n + 1, l, h => by
    by_cases hl : l = []
    · subst hl
      exact Nat.zero_le _
    · have hd := drop_less l hl
      have h2 := pcs_len n (l.drop (decodeL l).2) (by omega)
      rw [pcsW_step l hl, List.length_cons]
      omega
/-- The runes in which the document shows a text. -/
def runesP (ps : List (List UInt8 × Int)) (q : Bool) : List (List UInt8) := ps.flatMap fun p => shQ p.1 p.2 q
def runesW (l : List UInt8) (q : Bool) : List (List UInt8) := runesP (pcsW l) q
theorem shQ_len (p : List UInt8) (z : Int) (q : Bool) (h1 : 1 ≤ p.length) (h4 : p.length ≤ 4) : (shQ p z q).length ≤ 16 := by
  unfold shQ
  split
  · unfold ones
    rw [List.length_map, escs_len]
    omega
  · split <;> simp
theorem runesP_len (ps : List (List UInt8 × Int)) (q : Bool) (h : ∀ p ∈ ps, 1 ≤ p.1.length ∧ p.1.length ≤ 4 ∧ -1 ≤ p.2 ∧ p.2 ≤ 1114111) : (runesP ps q).length ≤ 16 * ps.length := by
  induction ps with
  | nil => exact Nat.zero_le _
  | cons p ps ih =>
    have h1 := h p List.mem_cons_self
    have h2 := shQ_len p.1 p.2 q h1.1 h1.2.1
    have h3 := ih fun x hx => h x (List.mem_cons_of_mem _ hx)
    show (shQ p.1 p.2 q ++ runesP ps q).length ≤ _
    rw [List.length_append, List.length_cons]
    omega
theorem runesP_take (ps : List (List UInt8 × Int)) (q : Bool) (k : Nat) (h : k < ps.length) : runesP (ps.take (k + 1)) q = runesP (ps.take k) q ++ shQ (ps.getD k ([], 0)).1 (ps.getD k ([], 0)).2 q := by
  unfold runesP
  rw [List.take_succ_eq_append_getElem h, List.flatMap_append, List.getD_eq_getElem?_getD, List.getElem?_eq_getElem h]
  simp
theorem pvals_at : ∀ (ps : List (List UInt8 × Int)) (k : Nat), k < ps.length → (pvals ps)[k * 2]? = some (.string (str (ps.getD k ([], 0)).1)) ∧ (pvals ps)[k * 2 + 1]? = some (.int .i32 (ps.getD k ([], 0)).2)
  | p :: ps, 0, _ => ⟨rfl, rfl⟩
  | p :: ps, k + 1, h => by
    have ih := pvals_at ps k (by simpa using h)
    have e1 : (k + 1) * 2 = k * 2 + 2 := by omega
    rw [e1]
    exact ih
theorem own_pair {w : World} {base : Nat} {e : TypeId} {v : Value} {n : Nat} {xs : List Value} (h : w.ownsRow base e 2 v n xs) (hn : 0 < n) : ∃ g c, v = .slice (some ⟨g, 0, none⟩) n c ∧ n ≤ c ∧ ∀ j u, xs[j]? = some u → w.cell? ⟨g, j, none⟩ = some u := by
  rcases h.2 with ⟨_, h0⟩ | ⟨g, cap, cur, rfl, hg, hh, hc, r⟩
  · omega
  · refine ⟨g, cap, rfl, hc, fun j u hu => ?_⟩
    have h2 := h.cells (g := g) rfl j u hu
    rw [add_none', Nat.zero_add] at h2
    exact h2

theorem strs_one' (xs : List (List UInt8)) : ∀ u ∈ strs xs, u.oneCell' = true := by
  intro u hu
  obtain ⟨x, _, rfl⟩ := List.mem_map.1 hu
  rfl

set_option maxRecDepth 100000 in
set_option maxHeartbeats 8000000 in
theorem runes_any (s : ByteArray) (q : Bool) (w : World) (hs : s.size ≤ 16777216) :
    Calls Tryd.prog 26 #[.string s, .bool q] w (MadeS (runesW s.data.toList q) w) := by
  have HPO := Lib.hid (pcs_ok _ s.data.toList (Nat.le_refl _))
  have hpl := pcs_len _ s.data.toList (Nat.le_refl _)
  have hz : s.data.toList.length = s.size := rfl
  have HRW : Hid (runesW s.data.toList q = runesP (pcsW s.data.toList) q) := Lib.hid rfl
  go_enter Tryd.func26, Tryd.ntmps26
  go_wp2_with fail
  refine (pieces_any s _ hs).mono ?_
  generalize pcsW s.data.toList = ps at hpl HPO HRW ⊢
  rintro e w1 ⟨v, m, rfl, hm, hown, hb⟩
  have HO := Lib.hid hown
  have HM := Lib.hid hm
  have HB := Lib.hid hb
  have hmb : m ≤ 16777216 := by omega
  have hsz := hb.size
  clear hm hown hb hz hpl
  have HLE : Hid (∀ k, (runesP (ps.take k) q).length ≤ 268435456) := Lib.hid fun k => by
    have h := runesP_len (ps.take k) q fun p hp => HPO.out p (List.mem_of_mem_take hp)
    rw [List.length_take] at h
    have := HM.out
    omega
  have hvl : ∃ A c, v = .slice A m c := by
    rcases HO.out.2 with ⟨rfl, h0⟩ | ⟨g, cap, cur, rfl, _⟩
    · exact ⟨none, 0, by rw [h0]⟩
    · exact ⟨_, _, rfl⟩
  obtain ⟨A, c, rfl⟩ := hvl
  go_wp2_with fail
  go_loopw [5, 7] (fun v5 v7 wr => ∃ k n : Nat, k ≤ m ∧ v7 = .int .i64 k ∧ Hid (n = (runesP (ps.take k) q).length) ∧ wr.ownsRow w1.heap.size 9 1 v5 n (strs (runesP (ps.take k) q)) ∧ Below w1.heap.size w1 wr) (fun _ v7 _ => m - (RowKit.intOf v7).toNat)
  case atStart => exact ⟨0, 0, Nat.zero_le _, rfl, Lib.hid rfl, ⟨rfl, .inl ⟨rfl, rfl⟩⟩, Below.refl _ _⟩
  case round =>
    obtain ⟨k, n, hk, rfl, HN, hown, hbw⟩ := hrel
    have HO2 := Lib.hid hown
    have HB2 := Lib.hid hbw
    have hsz2 := hbw.size
    clear hown hbw
    by_cases hlt : k < m
    · obtain ⟨g, c', hv, hmc, hcell⟩ := own_pair (own_below2 HO.out HB2.out (Nat.le_refl _)) (by omega)
      injection hv with hv1 _ hv3
      subst hv1 hv3
      have hkx : k < ps.length := by rw [← HM.out]; exact hlt
      obtain ⟨a0, a1⟩ := pvals_at ps k hkx
      have e0 := hcell _ _ a0
      have e1 := hcell _ _ a1
      have hok := HPO.out (ps.getD k ([], 0)) (by rw [List.getD_eq_getElem?_getD, List.getElem?_eq_getElem hkx]; exact List.getElem_mem hkx)
      have HRT := Lib.hid (runesP_take ps q k hkx)
      have hln := HLE.out (k + 1)
      rw [HRT.out, List.length_append, ← HN.out] at hln
      clear a0 a1 hcell
      generalize ps.getD k ([], 0) = pz at e0 e1 hok HRT hln
      obtain ⟨p, z⟩ := pz
      obtain ⟨o1, o2, o3, o4⟩ := hok
      replace o1 : 1 ≤ p.length := o1
      replace o2 : p.length ≤ 4 := o2
      replace o3 : -1 ≤ z := o3
      replace o4 : z ≤ 1114111 := o4
      replace e0 : wr.cell? ⟨g, k * 2, none⟩ = some (.string (str p)) := e0
      replace e1 : wr.cell? ⟨g, k * 2 + 1, none⟩ = some (.int .i32 z) := e1
      replace hln : n + (shQ p z q).length ≤ 268435456 := hln
      have HSH := Lib.hid fun W => docShown_any p z q W (by omega) (by omega) (by omega)
      go_wp2_with fail
      refine (HSH.out _).mono ?_
      generalize shQ p z q = sq at hln HRT HSH ⊢
      rintro e w2 ⟨v2, n2, rfl, hn2, ho2, hb2⟩
      obtain ⟨A2, c2, rfl, hs2⟩ := own_src ho2
      have HN2 := Lib.hid hn2
      have S2 := Lib.hid hs2
      have hn3 : n + n2 ≤ 268435456 := by omega
      have O2 := Lib.hid (own_below HO2.out hb2 (Nat.le_refl _))
      have HB3 := Lib.hid (HB2.out.trans (hb2.mono hsz2))
      have hsz3 : w1.heap.size ≤ w2.heap.size := HB3.out.size
      clear hn2 ho2 hs2 hb2 e0 e1
      go_wp2_with (at_builtin; go_must (refine wpList_append_src rfl (.tmp 16) (.tmp 22) 25 rfl w1.heap.size 9 (.string ByteArray.empty) 16 Tryd.underlying25 info_str rfl _ n _ rfl O2.out A2 n2 c2 _ rfl S2.out (strs_one' _) (by omega) (by omega) hsz3 ?_); intro v3 w3 ho3 hg3)
      have HB4 := Lib.hid (grown_row HB3.out O2.out (Nat.le_refl _) hsz3 hg3)
      rw [← strs_app, ← HRT.out] at ho3
      have O3 := Lib.hid ho3
      have HN3 : Hid (n + n2 = (runesP (ps.take (k + 1)) q).length) := Lib.hid (by rw [HRT.out, List.length_append, ← HN.out, HN2.out])
      clear ho3 hg3
      go_wp2_with fail
      go_roundw
      case rel => exact ⟨k + 1, n + n2, by omega, by go_num, HN3, O3.out, HB4.out⟩
      case measure => simp [RowKit.intOf]; omega
    · obtain rfl : k = m := by omega
      have HV : Hid (ps.take k = ps) := Lib.hid (by rw [HM.out, List.take_length])
      go_wp2_with fail
      go_ret
      rw [HRW.out]
      have h := HO2.out
      have h2 := HN.out
      rw [HV.out] at h h2
      exact ⟨_, n, rfl, h2, own_mono h hsz, HB.out.trans (HB2.out.mono hsz)⟩
end Go.Proofs.YtaoekpedjgnnjaaDoor.Wd
