/- Paths: plain facts; the program's pathOf. -/
import Derived.Test.YtfafhkhamaccfaaTaF
import Derived.Test.YtfafhkhamaccfaaShelf
namespace Go.Proofs.Ytfafhkhamaccfaa.Tr
open Go.ChangeShapes Go.WideShapes Go.ChangeAt Go.RowKit Own wordsNames

/-- Of a node and those above it: the text of the path, the root's aside. -/
def segs (L : List Nd) : List Nat → List UInt8
  | [] => []
  | [_] => []
  | x :: y :: r => segs L (y :: r) ++ 47 :: (L.getD x nd0).name
/-- The path that this text stands for. -/
def pathS (l : List UInt8) : List UInt8 := if l = [] then [47] else l
theorem segs_cons (L : List Nd) (x : Nat) {l : List Nat} (h : l ≠ []) : segs L (x :: l) = segs L l ++ 47 :: (L.getD x nd0).name := by
  cases l with
  | nil => exact absurd rfl h
  | cons y r => rfl
theorem segs_one (L : List Nd) {l : List Nat} (h : l.length ≤ 1) : segs L l = [] := by
  match l, h with
  | [], _ => rfl
  | [_], _ => rfl
theorem segs_len (L : List Nd) : ∀ (l : List Nat), (∀ x ∈ l, (L.getD x nd0).name.length ≤ 31) → (segs L l).length ≤ 32 * l.length
  | [], _ => by simp [segs]
  | [_], _ => by simp [segs]
  | x :: y :: r, h => by
    have h1 := segs_len L (y :: r) fun z hz => h z (List.mem_cons_of_mem _ hz)
    have h2 := h x List.mem_cons_self
    rw [segs_cons L x (by simp), List.length_append, List.length_cons]
    simp only [List.length_cons] at h1 ⊢
    omega
theorem name_facts {l : List UInt8} (h : isName l = true) : l ≠ [] ∧ l.length ≤ 31 ∧ ∀ c ∈ l, c ≠ 47 := by
  unfold isName at h
  simp only [Bool.and_eq_true, decide_eq_true_eq, List.all_eq_true] at h
  refine ⟨fun e => ?_, h.1.2, fun c hc e => ?_⟩
  · rw [e] at h
    simp at h
  · have := h.2 c hc
    rw [e] at this
    exact absurd this (by decide)
theorem next_name {L : List Nd} {n k : Nat} (hn : ∀ k, k < n → nextOk L k) (hk : k < n) (h0 : 0 < k) : isName (L.getD k nd0).name = true := by
  obtain ⟨_, _, h5⟩ := hn k hk
  rw [if_neg (by omega)] at h5
  exact h5.1
theorem next_short {L : List Nd} {n k : Nat} (hn : ∀ k, k < n → nextOk L k) (hk : k < n) : (L.getD k nd0).name.length ≤ 31 := by
  by_cases h0 : 0 < k
  · exact (name_facts (next_name hn hk h0)).2.1
  · obtain rfl : k = 0 := by omega
    obtain ⟨_, _, h5⟩ := hn 0 hk
    rw [if_pos rfl] at h5
    rw [h5.2]
    simp
theorem next_up {L : List Nd} {n k : Nat} (hn : ∀ k, k < n → nextOk L k) (hk : k < n) (h0 : 0 < k) : ∃ p : Nat, (L.getD k nd0).parent = (p : Int) ∧ p < k ∧ aboveN L k = k :: aboveN L p := by
  obtain ⟨_, _, h5⟩ := hn k hk
  rw [if_neg (by omega)] at h5
  obtain ⟨_, p0, p1, _⟩ := h5
  refine ⟨(L.getD k nd0).parent.toNat, by omega, by omega, ?_⟩
  rw [above_step L n (next_behind hn) k hk, if_neg (by omega)]
theorem above_zero {L : List Nd} {n : Nat} (hn : ∀ k, k < n → nextOk L k) (h : 0 < n) : aboveN L 0 = [0] := by
  obtain ⟨_, _, h5⟩ := hn 0 h
  rw [if_pos rfl] at h5
  rw [above_step L n (next_behind hn) 0 h, if_pos (by omega)]
theorem above_ne (L : List Nd) (j : Nat) : aboveN L j ≠ [] := fun e => by
  have := above_self L j
  rw [e] at this
  cases this
theorem segs_root {L : List Nd} {n : Nat} (hn : ∀ k, k < n → nextOk L k) (h : 0 < n) : segs L (aboveN L 0) = [] := by rw [above_zero hn h]; rfl
theorem segs_up {L : List Nd} {k p : Nat} (h : aboveN L k = k :: aboveN L p) : segs L (aboveN L k) = segs L (aboveN L p) ++ 47 :: (L.getD k nd0).name := by rw [h, segs_cons L k (above_ne L p)]
theorem segs_short {L : List Nd} {n k : Nat} (hn : ∀ k, k < n → nextOk L k) (hk : k < n) (l : List Nat) (hl : ∀ x ∈ l, x ∈ aboveN L k) (hle : l.length ≤ (aboveN L k).length) : (segs L l).length ≤ 16384 := by
  have h1 := segs_len L l fun x hx => next_short hn (by have := above_le L n (next_behind hn) k k (Nat.le_refl _) hk x (hl x hx); omega)
  have h2 := above_len L n (next_behind hn) k hk
  have h3 := (hn k hk).1
  omega
theorem not_end (a l : List UInt8) (h0 : l ≠ []) (h : ∀ c ∈ l, c ≠ 47) : Lib.hasSuffix (a ++ 47 :: l) [47] = false := by
  unfold Lib.hasSuffix
  rw [Bool.eq_false_iff]
  intro he
  rw [List.isSuffixOf_iff_suffix] at he
  obtain ⟨t, ht⟩ := he
  have h1 := congrArg List.getLast? ht
  rw [List.getLast?_append, List.getLast?_append] at h1
  cases l with
  | nil => exact h0 rfl
  | cons c r =>
    rw [List.getLast?_cons_cons] at h1
    have h2 : (c :: r).getLast? = some ((c :: r).getLast (by simp)) := List.getLast?_eq_some_getLast _
    rw [h2] at h1
    simp at h1
    exact h _ (List.getLast_mem (by simp)) h1.symm
/-- A path without the root's /. -/
theorem trim_path {L : List Nd} {n k : Nat} (hn : ∀ k, k < n → nextOk L k) (hk : k < n) : Lib.trimSuffix (pathS (segs L (aboveN L k))) [47] = segs L (aboveN L k) := by
  by_cases h0 : 0 < k
  · obtain ⟨p, _, _, hu⟩ := next_up hn hk h0
    obtain ⟨h1, _, h3⟩ := name_facts (next_name hn hk h0)
    rw [segs_up hu]
    unfold pathS
    rw [if_neg (by simp)]
    unfold Lib.trimSuffix
    rw [not_end _ _ h1 h3]
    rfl
  · obtain rfl : k = 0 := by omega
    rw [segs_root hn hk]
    decide
theorem path_up {L : List Nd} {k p : Nat} (hu : aboveN L k = k :: aboveN L p) : pathS (segs L (aboveN L k)) = segs L (aboveN L p) ++ 47 :: (L.getD k nd0).name := by
  rw [segs_up hu]
  unfold pathS
  rw [if_neg (by simp)]
theorem path_short {L : List Nd} {n k : Nat} (hn : ∀ k, k < n → nextOk L k) (hk : k < n) : (pathS (segs L (aboveN L k))).length ≤ 16384 := by
  have h := segs_short hn hk _ (fun x hx => hx) (Nat.le_refl _)
  unfold pathS
  split
  · simp
  · exact h
theorem app3 (a b : List UInt8) : str a ++ (⟨#[47]⟩ : ByteArray) ++ str b = str (a ++ 47 :: b) := bytes_ext (by
  rw [str_list]
  simp [str])
set_option maxHeartbeats 2000000 in
theorem kidPath_any (P Q : List UInt8) (w : World) (hp : P.length ≤ 1048576) (hq : Q.length ≤ 1048576) :
    Calls Try.prog 37 #[.string (str P), .string (str Q)] w fun e w' => e = .returned (.string (str (Lib.trimSuffix P [47] ++ 47 :: Q))) ∧ w = w' := by
  have HT := Lib.hid (Try.strings_TrimSuffix (str P) ⟨#[47]⟩ w (by rw [str_size]; omega))
  rw [str_list, show (⟨#[47]⟩ : ByteArray).data.toList = [47] from rfl] at HT
  have hl := Lib.trimSuffix_le P [47]
  have HA := Lib.hid (app3 (Lib.trimSuffix P [47]) Q)
  generalize Lib.trimSuffix P [47] = T at HT HA hl ⊢
  rw [show (⟨T.toArray⟩ : ByteArray) = str T from rfl] at HT
  have s1 : ¬ 9223372036854775807 < (str T).size + 1 := by rw [str_size]; omega
  have s2 : ¬ 9223372036854775807 < (str T ++ (⟨#[47]⟩ : ByteArray)).size + (str Q).size := by
    have h : (str T ++ (⟨#[47]⟩ : ByteArray)).size = T.length + 1 := by simp [str, ByteArray.size]
    rw [h, str_size]; omega
  generalize str T = ST at HT HA s1 s2
  generalize str Q = SQ at HA s2
  go_enter Try.func37, Try.ntmps37
  go_wp2_with fail
  refine HT.out.mono ?_
  rintro e w2 ⟨rfl, rfl⟩
  go_wp2_with fail
  go_ret
  rw [HA.out]
  exact ⟨rfl, rfl⟩
/-- The path of a node. -/
def pathV (L : List Nd) (j : Nat) : List UInt8 := pathS (segs L (aboveN L j))
set_option maxHeartbeats 2000000 in
theorem pathOf_any (A : Option Addr) (c n : Nat) (L : List Nd) (R : List Sl) (hnb : n ≤ 16777216) (hn : ∀ k, k < n → nextOk L k) (m : Nat) : ∀ (j : Nat) (w : World), j ≤ m → j < n → NodesIn w A n L R →
    Calls Try.prog 17 #[.slice A n c, .int .i64 (j : Int)] w fun e w' => e = .returned (.string (str (pathV L j))) ∧ Below w.heap.size w w' := by
  induction m with
  | zero =>
    intro j w hm hj hA
    obtain rfl : j = 0 := by omega
    have HV : Hid (pathV L 0 = [47]) := Lib.hid (by unfold pathV; rw [segs_root hn hj]; rfl)
    clear hA hn
    go_enter Try.func17, Try.ntmps17
    go_wp2_with fail
    go_ret
    rw [HV.out]
    exact ⟨rfl, Below.refl _ _⟩
  | succ m ih =>
    intro j w hm hj hA
    by_cases h0 : j = 0
    · subst h0
      have HV : Hid (pathV L 0 = [47]) := Lib.hid (by unfold pathV; rw [segs_root hn hj]; rfl)
      clear hA hn ih
      go_enter Try.func17, Try.ntmps17
      go_wp2_with fail
      go_ret
      rw [HV.out]
      exact ⟨rfl, Below.refl _ _⟩
    · obtain ⟨p, hp, hpk, hu⟩ := next_up hn hj (by omega)
      have HV : Hid (pathV L j = Lib.trimSuffix (pathV L p) [47] ++ 47 :: (L.getD j nd0).name) := Lib.hid (by
        unfold pathV
        rw [path_up hu, trim_path hn (show p < n by omega)])
      have hps : (pathV L p).length ≤ 1048576 := by have := path_short hn (show p < n by omega); unfold pathV; omega
      have hns : (L.getD j nd0).name.length ≤ 1048576 := by have := next_short hn hj; omega
      obtain ⟨b, o, rfl, hbs, hc⟩ := hA.at (by omega)
      have e0 := (hc j hj).1.1
      have e1 := (hc j hj).1.2.1
      rw [hp] at e0
      have IH := Lib.hid fun (W : World) (hW : Below w.heap.size w W) => ih p W (by omega) (by omega) (hA.below hW)
      have HK := Lib.hid fun (W : World) => kidPath_any (pathV L p) (L.getD j nd0).name W hps hns
      have HKP : Hid (∀ W, Below w.heap.size w W → (W.cell? ⟨b, o + j * 3, none⟩ = some (.int .i64 (p : Int)) ∧ W.cell? ⟨b, o + j * 3 + 1, none⟩ = some (.string (str (L.getD j nd0).name))) ∧ Below w.heap.size w W) := Lib.hid fun W hW =>
        ⟨⟨by rw [hW.cell (p := ⟨b, o + j * 3, none⟩) hbs]; exact e0, by rw [hW.cell (p := ⟨b, o + j * 3 + 1, none⟩) hbs]; exact e1⟩, hW⟩
      clear hc hA hn ih
      generalize (L.getD j nd0).name = nm at e1 HV HK HKP
      generalize str nm = NM at e1 HK HKP
      rw [← HV.out] at HK
      have j1 : (0 : Int) ≤ (j : Int) := by omega
      have j2 : (j : Int) < (n : Int) := by omega
      have t0 : ((j : Int) == 0) = false := beq_eq_false_iff_ne.2 (by omega)
      clear HV hps hns hp hu
      go_enter Try.func17, Try.ntmps17
      go_wp2_with fail
      go_region_held3 (fun w' => (w'.cell? ⟨b, o + j * 3, none⟩ = some (.int .i64 (p : Int)) ∧ w'.cell? ⟨b, o + j * 3 + 1, none⟩ = some (.string NM)) ∧ Below w.heap.size w w') (first | exact HKP.out _ (by assumption) | exact HKP.out _ (Below.refl _ _) | exact HKP.out _ (below_dr (Below.refl _ _) 1))
        (first
          | (go_at_call 17; refine (IH.out _ (by first | assumption | exact Below.refl _ _ | exact below_dr (Below.refl _ _) 1 | exact And.right (by assumption))).mono ?_; rintro e w9 ⟨rfl, b9⟩; have B9 := bt (y := w) (by first | assumption | exact Below.refl _ _ | exact below_dr (Below.refl _ _) 1 | exact And.right (by assumption)) b9; clear b9)
          | (go_at_call 37; refine (HK.out _).mono ?_; rintro e w9 ⟨rfl, rfl⟩))
      all_goals
        go_wp2_with fail
        go_ret
        exact ⟨rfl, B9⟩
theorem drop_at (l : List Nat) (k : Nat) (h : k < l.length) : l.drop k = l.getD k 0 :: l.drop (k + 1) := by
  rw [List.drop_eq_getElem_cons h, List.getD_eq_getElem?_getD, List.getElem?_eq_getElem h]
  rfl
theorem empty_of (l : List UInt8) : (str l).toList.isEmpty = decide (l = []) := by
  rw [Lib.toList_data, str_list]
  cases l <;> rfl
theorem segs_mid {L : List Nd} {n j k : Nat} (hn : ∀ k, k < n → nextOk L k) (hj : j < n) (hk : k < (aboveN L j).length) :
    (aboveN L j).getD k 0 < n ∧ (segs L ((aboveN L j).drop (k + 1))).length ≤ 16384 ∧ (L.getD ((aboveN L j).getD k 0) nd0).name.length ≤ 31 ∧
    (k + 1 < (aboveN L j).length → segs L ((aboveN L j).drop k) = segs L ((aboveN L j).drop (k + 1)) ++ 47 :: (L.getD ((aboveN L j).getD k 0) nd0).name) := by
  have hx : (aboveN L j).getD k 0 ∈ aboveN L j := by
    rw [List.getD_eq_getElem?_getD, List.getElem?_eq_getElem hk]
    exact List.getElem_mem hk
  have hlt : (aboveN L j).getD k 0 < n := by have := above_le L n (next_behind hn) j j (Nat.le_refl _) hj _ hx; omega
  refine ⟨hlt, segs_short hn hj _ (fun x hx => List.mem_of_mem_drop hx) (by rw [List.length_drop]; omega), next_short hn hlt, fun h => ?_⟩
  rw [drop_at _ k hk, segs_cons]
  intro e
  have h2 := congrArg List.length e
  rw [List.length_drop, List.length_nil] at h2
  omega
set_option maxHeartbeats 2000000 in
theorem refPathOf_any (A : Option Addr) (c n j : Nat) (L : List Nd) (R : List Sl) (w : World) (hj : j < n) (hnb : n ≤ 16777216) (hn : ∀ k, k < n → nextOk L k) (hA : NodesIn w A n L R) :
    Calls Try.prog 19 #[.slice A n c, .int .i64 (j : Int)] w fun e w' => e = .returned (.string (str (pathV L j))) ∧ Below w.heap.size w w' := by
  have HAB := Lib.hid (above_any A c n L R j w hj hnb (behind_less (next_behind hn) (by omega)) hA)
  have GA := Lib.hid hA
  have HNX := Lib.hid hn
  have HPO := Lib.hid (List.length_pos_iff.2 (above_ne L j))
  have hlen := above_len L n (next_behind hn) j hj
  clear hA hn
  go_enter Try.func19, Try.ntmps19
  go_wp2_with fail
  refine HAB.out.mono ?_
  rintro e w2 ⟨A2, m, c2, hm, rfl, ho, hb2⟩
  have HM := Lib.hid hm
  have HB := Lib.hid hb2
  have hm0 : 0 < m := by rw [hm]; exact HPO.out
  have hmb : m ≤ 16777217 := by rw [hm]; omega
  obtain ⟨A3, c3, hv, hs⟩ := own_src ho
  injection hv with q1 _ q3
  rw [← q1, ← q3] at hs
  have HS := Lib.hid hs
  clear hm hb2 ho hs q1 q3 hlen HPO
  go_wp2_with fail
  go_loop [6, 7] (fun v6 v7 => ∃ k : Int, -1 ≤ k ∧ k + 2 ≤ (m : Int) ∧ v7 = .int .i64 k ∧ v6 = .string (str (segs L ((aboveN L j).drop (k + 1).toNat)))) (fun _ v7 => (RowKit.intOf v7 + 1).toNat)
  case atStart => exact ⟨(m : Int) - 2, by omega, by omega, by go_num, by rw [segs_one L (by rw [List.length_drop, ← HM.out]; omega)]; rfl⟩
  case round =>
    obtain ⟨k, hk1, hk2, rfl, rfl⟩ := hrel
    by_cases h0 : 0 ≤ k
    · obtain ⟨p, rfl⟩ : ∃ p : Nat, k = (p : Int) := ⟨k.toNat, by omega⟩
      have hpm : p < (aboveN L j).length := by rw [← HM.out]; omega
      obtain ⟨⟨b2, o2, sp⟩, rfl, hc2⟩ := src_get' HS.out (by omega)
      have d1 := hc2 p _ (nums_at _ p hpm)
      obtain ⟨hx, hsl, hnl, hst⟩ := segs_mid HNX.out hj hpm
      obtain ⟨b, o, rfl, hbs, hc⟩ := (GA.out.below HB.out).at (by omega)
      have e1 := (hc _ hx).1.2.1
      have HST : Hid (str (segs L ((aboveN L j).drop ((p : Int) + 1).toNat)) ++ (⟨#[47]⟩ : ByteArray) ++ str (L.getD ((aboveN L j).getD p 0) nd0).name = str (segs L ((aboveN L j).drop p))) := Lib.hid (by
        rw [app3, show ((p : Int) + 1).toNat = p + 1 by omega, hst (by rw [← HM.out]; omega)])
      have s1 : ¬ 9223372036854775807 < (str (segs L ((aboveN L j).drop ((p : Int) + 1).toNat))).size + 1 := by rw [str_size, show ((p : Int) + 1).toNat = p + 1 by omega]; omega
      have s2 : ¬ 9223372036854775807 < (str (segs L ((aboveN L j).drop ((p : Int) + 1).toNat)) ++ (⟨#[47]⟩ : ByteArray)).size + (str (L.getD ((aboveN L j).getD p 0) nd0).name).size := by
        have h : (str (segs L ((aboveN L j).drop ((p : Int) + 1).toNat)) ++ (⟨#[47]⟩ : ByteArray)).size = (segs L ((aboveN L j).drop ((p : Int) + 1).toNat)).length + 1 := by simp [str, ByteArray.size]
        rw [h, str_size, show ((p : Int) + 1).toNat = p + 1 by omega]; omega
      clear hc hc2 hst hpm hsl hnl
      generalize (aboveN L j).getD p 0 = x at d1 e1 HST s2 hx
      generalize str (L.getD x nd0).name = NM at e1 HST s2
      generalize str (segs L ((aboveN L j).drop ((p : Int) + 1).toNat)) = S0 at HST s1 s2 ⊢
      have p1 : (0 : Int) ≤ (p : Int) := by omega
      have p2 : (p : Int) < (m : Int) := by omega
      have p3 : (0 : Int) ≤ (x : Int) := by omega
      have p4 : (x : Int) < (n : Int) := by omega
      go_wp2_with fail
      go_round
      case rel => exact ⟨(p : Int) - 1, by omega, by omega, by go_num, by rw [HST.out, show (((p : Int) - 1) + 1).toNat = p by omega]⟩
      case measure => simp [RowKit.intOf]
    · obtain rfl : k = -1 := by omega
      have HV : Hid (pathV L j = pathS (segs L ((aboveN L j).drop ((-1 : Int) + 1).toNat))) := Lib.hid rfl
      have HE := Lib.hid (empty_of (segs L ((aboveN L j).drop ((-1 : Int) + 1).toNat)))
      by_cases hz : segs L ((aboveN L j).drop ((-1 : Int) + 1).toNat) = []
      · have t1 : (str (segs L ((aboveN L j).drop ((-1 : Int) + 1).toNat))).toList.isEmpty = true := by rw [HE.out, decide_eq_true hz]
        have HV2 : Hid (pathV L j = [47]) := Lib.hid (by rw [HV.out]; unfold pathS; rw [if_pos hz])
        generalize str (segs L ((aboveN L j).drop ((-1 : Int) + 1).toNat)) = S0 at t1 ⊢
        clear hz HV HE
        go_wp2_with fail
        go_ret
        rw [HV2.out]
        exact ⟨rfl, HB.out⟩
      · have t1 : (str (segs L ((aboveN L j).drop ((-1 : Int) + 1).toNat))).toList.isEmpty = false := by rw [HE.out, decide_eq_false hz]
        have HV2 : Hid (str (segs L ((aboveN L j).drop ((-1 : Int) + 1).toNat)) = str (pathV L j)) := Lib.hid (by rw [HV.out]; unfold pathS; rw [if_neg hz])
        generalize str (segs L ((aboveN L j).drop ((-1 : Int) + 1).toNat)) = S0 at t1 HV2 ⊢
        clear hz HV HE
        go_wp2_with fail
        go_ret
        rw [HV2.out]
        exact ⟨rfl, HB.out⟩
/-- What Path says. -/
def pathE (L : List Nd) (i er : Int) : List UInt8 := if er = 0 then pathV L i.toNat else []
theorem pathE_bad (L : List Nd) (i : Int) {er : Int} (h : er ≠ 0) : pathE L i er = [] := if_neg h
set_option maxHeartbeats 2000000 in
theorem refPath_any (A : Option Addr) (c n : Nat) (L : List Nd) (R : List Sl) (i er : Int) (w : World) (hp : Pl L i er) (hm : Mild L) (hA : NodesIn w A n L R) :
    Calls Try.prog 6 #[.slice A n c, .int .i64 i] w fun e w' => e = .returned (.tuple #[.string (str (pathE L i er)), .int .i64 er]) ∧ Below w.heap.size w w' := by
  have HW := Lib.hid (wrong_any A c n L R i er w hp hm hA)
  rcases pl_err hp with rfl | rfl | ⟨rfl, h1, h2, _⟩
  case' inr.inr =>
    obtain ⟨j, rfl⟩ : ∃ j : Nat, i = (j : Int) := ⟨i.toNat, by omega⟩
    have hn := hA.1
    subst hn
    have hnb : L.length ≤ 16777216 := hm.1
    have HNX := Lib.hid (pl_next hp rfl)
    have HA := Lib.hid fun (W : World) (hW : Below w.heap.size w W) => refPathOf_any A c L.length j L R W (by omega) hnb HNX.out (hA.below hW)
    have HV : Hid (pathE L (j : Int) 0 = pathV L j) := Lib.hid (by unfold pathE; rw [if_pos rfl, Int.toNat_natCast])
    clear hp hm hA h1 h2
    go_enter Try.func6, Try.ntmps6
    go_wp2_with fail
    refine HW.out.mono ?_
    rintro e w2 ⟨rfl, hb⟩
    have HB := Lib.hid hb
    clear hb
    go_wp2_with fail
    refine (HA.out _ HB.out).mono ?_
    rintro e w3 ⟨rfl, hb3⟩
    have HB3 := Lib.hid (bt HB.out hb3)
    clear hb3
    go_wp2_with fail
    go_ret2
    rw [HV.out]
    exact ⟨rfl, HB3.out⟩
  all_goals
    rw [pathE_bad L i (by omega)]
    clear hp hm hA
    go_enter Try.func6, Try.ntmps6
    go_wp2_with fail
    refine HW.out.mono ?_
    rintro e w2 ⟨rfl, hb⟩
    go_wp2_with fail
    go_ret2
    exact ⟨rfl, hb⟩
set_option maxHeartbeats 2000000 in
theorem tPath_any (A : Option Addr) (c n : Nat) (L : List Nd) (R : List Sl) (i er : Int) (w : World) (hp : Pl L i er) (hm : Mild L) (hw : Wf L) (hcp : Caps R) (hA : NodesIn w A n L R) :
    Calls Try.prog 5 #[.slice A n c, .int .i64 i] w fun e w' => e = .returned (.tuple #[.string (str (pathE L i er)), .int .i64 er]) ∧ Below w.heap.size w w' := by
  have HW := Lib.hid (place_any A c n L R i er w hp hm hw hcp hA)
  rcases pl_err hp with rfl | rfl | ⟨rfl, h1, h2, _⟩
  case' inr.inr =>
    obtain ⟨j, rfl⟩ : ∃ j : Nat, i = (j : Int) := ⟨i.toNat, by omega⟩
    have hn := hA.1
    subst hn
    have hnb : L.length ≤ 16777216 := hm.1
    have HNX := Lib.hid (pl_next hp rfl)
    have HA := Lib.hid fun (W : World) (hW : Below w.heap.size w W) => pathOf_any A c L.length L R hnb HNX.out j j W (Nat.le_refl _) (by omega) (hA.below hW)
    have HV : Hid (pathE L (j : Int) 0 = pathV L j) := Lib.hid (by unfold pathE; rw [if_pos rfl, Int.toNat_natCast])
    clear hp hm hw hcp hA h1 h2
    go_enter Try.func5, Try.ntmps5
    go_wp2_with fail
    refine HW.out.mono ?_
    rintro e w2 ⟨rfl, hb⟩
    have HB := Lib.hid hb
    clear hb
    go_wp2_with fail
    refine (HA.out _ HB.out).mono ?_
    rintro e w3 ⟨rfl, hb3⟩
    have HB3 := Lib.hid (bt HB.out hb3)
    clear hb3
    go_wp2_with fail
    go_ret2
    rw [HV.out]
    exact ⟨rfl, HB3.out⟩
  all_goals
    rw [pathE_bad L i (by omega)]
    clear hp hm hw hcp hA
    go_enter Try.func5, Try.ntmps5
    go_wp2_with fail
    refine HW.out.mono ?_
    rintro e w2 ⟨rfl, hb⟩
    go_wp2_with fail
    go_ret2
    exact ⟨rfl, hb⟩
end Go.Proofs.Ytfafhkhamaccfaa.Tr
