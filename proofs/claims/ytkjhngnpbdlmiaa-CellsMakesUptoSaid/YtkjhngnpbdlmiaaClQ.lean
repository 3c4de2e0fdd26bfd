/- The walk of the law on making. -/
import Derived.Test.YtkjhngnpbdlmiaaClP
import Derived.Test.YtkjhngnpbdlmiaaClL
import Derived.Deep.RegionLaw
import Derived.Deep.RegionWith
import Derived.Deep.RegionHeld3
namespace Go.Proofs.Ytkjhngnpbdlmiaa.Cl
open Go.ChangeShapes Go.WideShapes Go.ChangeAt Go.RowKit Own

theorem below_first {W w1 : World} {E : TypeId} (hg : (W.alloc (.cells #[] E)).grownBy w1 (Value.slice (some ⟨W.heap.size, 0, none⟩) 0 0).ownBlock) : Below W.heap.size W w1 :=
  ((Below.refl W.heap.size W).alloc (Nat.le_refl _) _).grown hg (by simp) (by intro k hk; injection hk with hk; exact Nat.le_of_eq hk)
theorem src_front {w : World} {base : Nat} {E : TypeId} {g N cap : Nat} {zs : List Value} (h : w.ownsRow base E 1 (.slice (some ⟨g, 0, none⟩) N cap) N zs) (k : Nat) (hk : k ≤ N) (c : Nat) : Src w (some ⟨g, 0, none⟩) k c (zs.take k) :=
  .inr ⟨_, rfl, by have := h.1; simp; omega, fun j u hu => h.cells (g := g) rfl j u (by
    rw [List.getElem?_take] at hu
    split at hu
    · exact hu
    · cases hu)⟩
theorem own_cap {w : World} {base : Nat} {E : TypeId} {g n cap : Nat} {zs : List Value} (h : w.ownsRow base E 1 (.slice (some ⟨g, 0, none⟩) n cap) n zs) : n ≤ cap := by
  rcases h.2 with ⟨h0, _⟩ | ⟨g', cap', cur, hv, _, _, hc, _⟩
  · simp at h0
  · injection hv with _ _ h3
    omega
theorem nats_front (k : IntKind) (xs : List Nat) (x : Nat) : (nats k (xs ++ [x])).take xs.length = nats k xs := by
  simp [nats]
theorem strs_front (xs : List ByteArray) (x : ByteArray) : (strs (xs ++ [x])).take xs.length = strs xs := by
  simp [strs]
theorem nats_77 (k : IntKind) (xs : List Nat) : nats k xs ++ [.int k 77] = nats k (xs ++ [77]) := by simp [nats]
theorem nats_take (k : IntKind) (xs : List Nat) (n : Nat) : (nats k xs).take n = nats k (xs.take n) := by simp [nats, List.map_take]
theorem strs_take (xs : List ByteArray) (n : Nat) : (strs xs).take n = strs (xs.take n) := by simp [strs, List.map_take]
theorem bt {y W w9 : World} (h : Below y.heap.size y W) (h9 : Below W.heap.size W w9) : Below y.heap.size y w9 := h.trans (h9.mono h.size)
theorem ba {y W : World} (h : Below y.heap.size y W) (o : Obj) : Below y.heap.size y (W.alloc o) := h.alloc h.size o
theorem bg {y W wt : World} {g0 : Nat} (h : Below y.heap.size y W) (hg : W.grownBy wt (Value.slice (some ⟨g0, 0, none⟩) 0 0).ownBlock) (hle : y.heap.size ≤ g0) : Below y.heap.size y wt :=
  h.trans (below_of_grown hg h.size (fun k hk => by
    simp [Value.ownBlock] at hk
    omega))
theorem step_app {P : Program} {w : World} {ops : Array Oper} {o : Oper} {a : Act} {K : Act → World → Prop} {Q : Exit → Act → World → Prop} {E' : Prop} (hw : Region.wanted o (yielded ops a.tmps) = true) (s x : Operand) (t : TypeId)
    (ho : o.op = .call { callee := .builtin .append, args := #[s, x], argTypes := #[t, t] })
    (base : Nat) (e : TypeId) (z : Value) (bytes : Nat) (ht : P.underlying t = some (.slice e)) (hinfo : (P.info? e).map (fun i => (i.zero, i.size, i.bytes)) = some (some z, 1, bytes)) (hzs : z.cells.size = 1)
    (v : Value) (n : Nat) (xs : List Value) (hs : a.eval s = v) (hown : w.ownsRow base e 1 v n xs)
    (ad : Addr) (m c : Nat) (news : List Value) (hx : a.eval x = .slice (some ad) m c) (hsrc : Src w (some ad) m c news) (h1 : ∀ u ∈ news, u.oneCell' = true)
    (h63 : n + m ≤ 140737488355328) (hbytes : (n + m) * bytes ≤ 140737488355328) (hbase : base ≤ w.heap.size)
    (h : ∀ v' w', w'.ownsRow base e 1 v' (n + m) (xs ++ news) → w.grownBy w' v.ownBlock → K (a.put o.dst v') w') :
    if Region.wanted o (yielded ops a.tmps) = true then Oper.wp P o a w K Q else E' := by
  rw [if_pos hw]
  obtain ⟨i, hi, hz, hz1, hz2⟩ := info_parts hinfo
  rcases hsrc with ⟨h0, _⟩ | ⟨a', ha, hl, hc⟩
  · cases h0
  · injection ha with ha
    subst ha
    exact wp_append_own w s x t ho base e i z 1 bytes ht hi hz hz1 hz2 hzs (by omega) v n xs hs hown ad m c news hx (by omega) hc h1 (by unfold maxLen; omega) hbytes hbase (fun v' w' h2 h3 _ => h v' w' h2 h3)
def tS : ByteArray := ⟨#[116]⟩
def mark : ByteArray := ⟨#[109, 97, 114, 107]⟩
/-- The first k texts spoilt. -/
def spoil (xs : List ByteArray) (k : Nat) : List ByteArray := List.replicate k tS ++ xs.drop k
theorem spoil_len (xs : List ByteArray) (k : Nat) (h : k ≤ xs.length) : (spoil xs k).length = xs.length := by simp [spoil]; omega
theorem spoil_set (xs : List ByteArray) (k : Nat) (h : k < xs.length) : (spoil xs k).set k tS = spoil xs (k + 1) := by
  unfold spoil
  rw [List.set_append_right _ _ (by simp), List.length_replicate, Nat.sub_self, List.drop_eq_getElem_cons h, List.set_cons_zero, List.replicate_succ', List.append_assoc]
  rfl
theorem spoil_front (xs : List ByteArray) (x : ByteArray) : (spoil (xs ++ [x]) xs.length).take xs.length = List.replicate xs.length tS := by
  unfold spoil
  rw [List.take_append_of_le_length (by simp), List.take_of_length_le (by simp)]
theorem vT_rep : ∀ n : Nat, (vT (List.replicate n tS)).length = 2 * n
  | 0 => rfl
  | n + 1 => by
    have := vT_rep n
    simp only [vT, List.replicate_succ, List.flatMap_cons, List.length_append] at this ⊢
    have h : tS.data.toList.length = 1 := rfl
    simp only [List.length_cons, List.length_nil, h]
    omega
theorem lim_set {b : Nat} {xs : List Nat} (h : Lim b xs) (k x : Nat) (hx : x < b) : Lim b (xs.set k x) := by
  intro i hi
  rw [List.length_set] at hi
  rw [List.getD_eq_getElem?_getD]
  by_cases e : k = i
  · subst e
    rw [List.getElem?_set_self hi]
    exact hx
  · rw [List.getElem?_set_ne e, ← List.getD_eq_getElem?_getD]
    exact h i hi
theorem lim_take {b : Nat} {xs : List Nat} (h : Lim b xs) (n : Nat) : Lim b (xs.take n) := by
  intro i hi
  rw [List.length_take] at hi
  rw [List.getD_eq_getElem?_getD, List.getElem?_take, if_pos (by omega), ← List.getD_eq_getElem?_getD]
  exact h i (by omega)
theorem lim_snoc {b : Nat} {xs : List Nat} (h : Lim b xs) (x : Nat) (hx : x < b) : Lim b (xs ++ [x]) := by
  intro i hi
  rw [List.getD_eq_getElem?_getD]
  by_cases e : i < xs.length
  · rw [List.getElem?_append_left e, ← List.getD_eq_getElem?_getD]
    exact h i e
  · have : i = xs.length := by simp at hi; omega
    subst this
    simp [hx]
theorem nats_set (k : IntKind) (xs : List Nat) (i x : Nat) : (nats k xs).set i (.int k (x : Int)) = nats k (xs.set i x) := by simp [nats]

set_option maxRecDepth 100000 in
set_option maxHeartbeats 8000000 in
theorem walkMakes (A B C : Option Addr) (ca cb cc : Nat) (xs ys : List Nat) (ls : List ByteArray) (na nb nl : Nat) (w : World) (ha : na = xs.length) (hb : nb = ys.length) (hl : nl = ls.length) (la : na ≤ 1048576) (lb : nb ≤ 1048576) (ll : nl ≤ 1048576)
    (hT : (vT ls).length ≤ 2097152) (limx : Lim 4294967296 xs) (limy : Lim 18446744073709551616 ys) (sA : Src w A na ca (nats .u32 xs)) (sB : Src w B nb cb (nats .u64 ys)) (sC : Src w C nl cc (strs ls)) :
    Calls Try.prog 4 #[.slice A na ca, .slice B nb cb, .slice C nl cc] w fun e w' => e = .returned (.bool true) ∧ Below w.heap.size w w' := by
  have HA := Lib.hid ha
  have HBn := Lib.hid hb
  have HLn := Lib.hid hl
  have HT := Lib.hid hT
  have LX := Lib.hid limx
  have LY := Lib.hid limy
  have SA := Lib.hid sA
  have SB := Lib.hid sB
  have SC := Lib.hid sC
  clear ha hb hl hT limx limy sA sB sC
  have tok1 : True := trivial
  go_enter Try.func4, Try.ntmps4
  go_wp2_with (first
    | (at_builtin; have tk := tok1; go_must (refine wpList_append_src rfl (.tmp 16) (.tmp 17) 22 rfl w.heap.size 35 (.int .u32 0) 4 Try.underlying22 info_u32 rfl _ 0 [] rfl (own_empty w 35) A na ca _ rfl (SA.out.below ((Below.refl _ _).alloc (Nat.le_refl _) _)) (nats_one .u32 xs) (by omega) (by omega) (by simp) ?_); intro v1 w1 ho1 hg1; clear tok1 tk; rw [Nat.zero_add, List.nil_append] at ho1; have hb1 := below_first hg1; have HO1 := Lib.hid ho1; have HB1 := Lib.hid hb1; have z1 := hb1.size; clear ho1 hg1 hb1; have tok2 : True := trivial)
    | (at_builtin; have tk := tok2; go_must (refine wpList_append_src rfl (.tmp 18) (.tmp 19) 22 rfl w.heap.size 35 (.int .u32 0) 4 Try.underlying22 info_u32 rfl _ na _ rfl (HO1.out.alloc _) _ 1 1 [.int .u32 77] rfl (src_new _ _ _) (by intro u hu; simp at hu; subst hu; rfl) (by omega) (by omega) (by simp; omega) ?_); intro v2 w2 ho2 hg2; clear tok2 tk; have hb2 := below_grown HB1.out z1 HO1.out (Nat.le_refl _) hg2; have HO2 := Lib.hid ho2; have HB2 := Lib.hid hb2; have z2 := hb2.size; clear ho2 hg2 hb2; have tok3 : True := trivial)
    | (at_builtin; have tk := tok3; go_must (refine wpList_append_src rfl (.tmp 21) (.tmp 22) 26 rfl w2.heap.size 36 (.int .u64 0) 8 Try.underlying26 info_u64 rfl _ 0 [] rfl (own_empty w2 36) B nb cb _ rfl ((SB.out.below HB2.out).below ((Below.refl _ _).alloc (Nat.le_refl _) _)) (nats_one .u64 ys) (by omega) (by omega) (by simp) ?_); intro v3 w3 ho3 hg3; clear tok3 tk; rw [Nat.zero_add, List.nil_append] at ho3; have hb3 := below_first hg3; have HO3 := Lib.hid ho3; have HB3 := Lib.hid hb3; have z3 := hb3.size; clear ho3 hg3 hb3; have tok4 : True := trivial)
    | (at_builtin; have tk := tok4; go_must (refine wpList_append_src rfl (.tmp 23) (.tmp 24) 26 rfl w2.heap.size 36 (.int .u64 0) 8 Try.underlying26 info_u64 rfl _ nb _ rfl (HO3.out.alloc _) _ 1 1 [.int .u64 77] rfl (src_new _ _ _) (by intro u hu; simp at hu; subst hu; rfl) (by omega) (by omega) (by simp; omega) ?_); intro v4 w4 ho4 hg4; clear tok4 tk; have hb4 := below_grown HB3.out z3 HO3.out (Nat.le_refl _) hg4; have HO4 := Lib.hid ho4; have HB4 := Lib.hid hb4; have z4 := hb4.size; clear ho4 hg4 hb4; have tok5 : True := trivial)
    | (at_builtin; have tk := tok5; go_must (refine wpList_append_src rfl (.tmp 26) (.tmp 27) 29 rfl w4.heap.size 9 (.string ByteArray.empty) 16 Try.underlying29 info_str rfl _ 0 [] rfl (own_empty w4 9) C nl cc _ rfl (((SC.out.below HB2.out).below HB4.out).below ((Below.refl _ _).alloc (Nat.le_refl _) _)) (strs_one ls) (by omega) (by omega) (by simp) ?_); intro v5 w5 ho5 hg5; clear tok5 tk; rw [Nat.zero_add, List.nil_append] at ho5; have hb5 := below_first hg5; have HO5 := Lib.hid ho5; have HB5 := Lib.hid hb5; have z5 := hb5.size; clear ho5 hg5 hb5; have tok6 : True := trivial)
    | (at_builtin; have tk := tok6; go_must (refine wpList_append_src rfl (.tmp 28) (.tmp 29) 29 rfl w4.heap.size 9 (.string ByteArray.empty) 16 Try.underlying29 info_str rfl _ nl _ rfl (HO5.out.alloc _) _ 1 1 [.string mark] rfl (src_new _ _ _) (by intro u hu; simp at hu; subst hu; rfl) (by omega) (by omega) (by simp; omega) ?_); intro v6 w6 ho6 hg6; clear tok6 tk; have hb6 := below_grown HB5.out z5 HO5.out (Nat.le_refl _) hg6; have HO6 := Lib.hid ho6; have HB6 := Lib.hid hb6; have z6 := hb6.size; clear ho6 hg6 hb6))
  obtain ⟨gx, capx, hvx, hgx, _⟩ := HO2.out.form (by omega)
  obtain ⟨gy, capy, hvy, hgy, _⟩ := HO4.out.form (by omega)
  obtain ⟨gz, capz, hvz, hgz, _⟩ := HO6.out.form (by omega)
  subst hvx hvy hvz
  have B26 := HB4.out.trans (HB6.out.mono z4)
  have OX := own_below HO2.out B26 (Nat.le_refl _)
  have OY := own_below HO4.out HB6.out (Nat.le_refl _)
  have OZ := HO6.out
  rw [nats_77] at OX OY
  rw [strs_snoc'] at OZ
  have B06 := HB2.out.trans (B26.mono z2)
  have hcx := own_cap OX
  have hcy := own_cap OY
  have hcz := own_cap OZ
  have FX : Hid (∀ w', Below w6.heap.size w6 w' → Src w' (some ⟨gx, 0, none⟩) na capx (nats .u32 xs)) := Lib.hid fun w' hb => by
    have h := (src_front OX na (by omega) capx).below hb
    rw [HA.out, nats_front] at h
    rw [HA.out]
    exact h
  have FY : Hid (∀ w', Below w6.heap.size w6 w' → Src w' (some ⟨gy, 0, none⟩) nb capy (nats .u64 ys)) := Lib.hid fun w' hb => by
    have h := (src_front OY nb (by omega) capy).below hb
    rw [HBn.out, nats_front] at h
    rw [HBn.out]
    exact h
  have FZ : Hid (∀ w', Below w6.heap.size w6 w' → Src w' (some ⟨gz, 0, none⟩) nl capz (strs ls)) := Lib.hid fun w' hb => by
    have h := (src_front OZ nl (by omega) capz).below hb
    rw [HLn.out, strs_front] at h
    rw [HLn.out]
    exact h
  have GA : Hid (∀ w', Below w6.heap.size w6 w' → Src w' A na ca (nats .u32 xs)) := Lib.hid fun w' hb => (SA.out.below B06).below hb
  have GB : Hid (∀ w', Below w6.heap.size w6 w' → Src w' B nb cb (nats .u64 ys)) := Lib.hid fun w' hb => (SB.out.below B06).below hb
  have GC : Hid (∀ w', Below w6.heap.size w6 w' → Src w' C nl cc (strs ls)) := Lib.hid fun w' hb => (SC.out.below B06).below hb
  have HOX : Hid (w6.ownsRow w.heap.size 35 1 (.slice (some ⟨gx, 0, none⟩) (na + 1) capx) (na + 1) (nats .u32 (xs ++ [77]))) := Lib.hid OX
  have HOY : Hid (w6.ownsRow w.heap.size 36 1 (.slice (some ⟨gy, 0, none⟩) (nb + 1) capy) (nb + 1) (nats .u64 (ys ++ [77]))) := Lib.hid (own_base OY z2)
  have HOZ : Hid (w6.ownsRow w.heap.size 9 1 (.slice (some ⟨gz, 0, none⟩) (nl + 1) capz) (nl + 1) (strs (ls ++ [mark]))) := Lib.hid (own_base OZ (by omega))
  have H06 := Lib.hid B06
  have hz6 : w.heap.size ≤ w6.heap.size := B06.size
  clear OX OY OZ B26 B06 HO1 HO2 HO3 HO4 HO5 HO6 HB1 HB2 HB3 HB4 HB5 HB6 z1 z2 z3 z4 z5 z6 hgx hgy hgz SA SB SC
  refine (refOfTexts_any C cc nl ls _ HLn.out (by have := HT.out; omega) (by omega) (GC.out _ (Below.refl _ _))).mono ?_
  rintro e y1 ⟨rfl, hb1⟩
  have E1 := Lib.hid hb1
  clear hb1
  go_wp2_with fail
  refine (ofTexts_any (some ⟨gz, 0, none⟩) capz nl ls _ HLn.out (by have := HT.out; omega) (by omega) (FZ.out _ E1.out)).mono ?_
  rintro e y2 ⟨rfl, hb2⟩
  have E2 := Lib.hid (E1.out.trans (hb2.mono E1.out.size))
  clear hb2
  go_wp2_with fail
  refine (of32_any (some ⟨gx, 0, none⟩) capx na xs _ HA.out (by omega) LX.out (FX.out _ E2.out)).mono ?_
  rintro e y3 ⟨rfl, hb3⟩
  have E3 := Lib.hid (E2.out.trans (hb3.mono E2.out.size))
  clear hb3
  go_wp2_with fail
  refine (refOf32_any A ca na xs _ HA.out (by omega) LX.out (GA.out _ E3.out)).mono ?_
  rintro e y4 ⟨rfl, hb4⟩
  have E4 := Lib.hid (E3.out.trans (hb4.mono E3.out.size))
  clear hb4
  go_wp2_with fail
  refine (of64_any (some ⟨gy, 0, none⟩) capy nb ys _ HBn.out (by omega) LY.out (FY.out _ E4.out)).mono ?_
  rintro e y5 ⟨rfl, hb5⟩
  have E5 := Lib.hid (E4.out.trans (hb5.mono E4.out.size))
  clear hb5
  go_wp2_with fail
  refine (refOf64_any B cb nb ys _ HBn.out (by omega) LY.out (GB.out _ E5.out)).mono ?_
  rintro e y6 ⟨rfl, hb6⟩
  have E6 := Lib.hid (E5.out.trans (hb6.mono E5.out.size))
  clear hb6
  have kx : y6.cell? ⟨gx, na, none⟩ = some (.int .u32 77) := by
    have h := (own_below HOX.out E6.out (Nat.le_refl _)).cellAt na (by omega)
    rw [h]
    simp [nats, HA.out]
  have ky : y6.cell? ⟨gy, nb, none⟩ = some (.int .u64 77) := by
    have h := (own_below HOY.out E6.out (Nat.le_refl _)).cellAt nb (by omega)
    rw [h]
    simp [nats, HBn.out]
  have kz : y6.cell? ⟨gz, nl, none⟩ = some (.string ⟨#[109, 97, 114, 107]⟩) := by
    have h := (own_below HOZ.out E6.out (Nat.le_refl _)).cellAt nl (by omega)
    rw [h]
    simp [strs, HLn.out, mark]
  go_wp2_with fail
  refine (thirties_n (some ⟨gx, 0, none⟩) A capx ca na xs _ HA.out (by omega) (FX.out _ E6.out) (GA.out _ E6.out)).mono ?_
  rintro e wx ⟨rfl, q1, rfl⟩
  go_wp2_with fail
  refine (sixties_n (some ⟨gy, 0, none⟩) B capy cb nb ys _ HBn.out (by omega) ((FY.out _ E6.out).drewN _) ((GB.out _ E6.out).drewN _)).mono ?_
  rintro e wx ⟨rfl, q2, rfl⟩
  go_wp2_with fail
  refine (textsSame_n (some ⟨gz, 0, none⟩) C capz cc nl ls _ HLn.out (by omega) ((FZ.out _ E6.out).drewN _) ((GC.out _ E6.out).drewN _)).mono ?_
  rintro e wx ⟨rfl, q3, rfl⟩
  go_wp2_with fail
  clear kx ky kz FX FY FZ GA GB GC HOY
  have HW : Hid (∃ zs, zs.length = na + 1 ∧ Lim 4294967296 zs ∧ y6.ownsRow w.heap.size 35 1 (.slice (some ⟨gx, 0, none⟩) (na + 1) capx) (na + 1) (nats .u32 zs)) := Lib.hid ⟨xs ++ [77], by simp [HA.out], lim_snoc LX.out 77 (by decide), own_below HOX.out E6.out (Nat.le_refl _)⟩
  have HZ6 : Hid (y6.ownsRow w.heap.size 9 1 (.slice (some ⟨gz, 0, none⟩) (nl + 1) capz) (nl + 1) (strs (spoil (ls ++ [mark]) 0))) := Lib.hid (own_below HOZ.out E6.out (Nat.le_refl _))
  have HB6 := Lib.hid (H06.out.trans (E6.out.mono hz6))
  clear HOX HOZ E1 E2 E3 E4 E5 E6 H06 hz6 LX LY HT
  go_loopw [14] (fun i wr => ∃ k : Nat, k ≤ na ∧ i = .int .i64 k ∧ (∃ zs, zs.length = na + 1 ∧ Lim 4294967296 zs ∧ wr.ownsRow w.heap.size 35 1 (.slice (some ⟨gx, 0, none⟩) (na + 1) capx) (na + 1) (nats .u32 zs)) ∧ wr.ownsRow w.heap.size 9 1 (.slice (some ⟨gz, 0, none⟩) (nl + 1) capz) (nl + 1) (strs (spoil (ls ++ [mark]) 0)) ∧ Below w.heap.size w wr) (fun i _ => na - (intOf i).toNat)
  case atStart => exact ⟨0, by omega, rfl, HW.out, HZ6.out, below_drewN HB6.out _⟩
  case round =>
    clear HW HZ6 HB6
    obtain ⟨k, hk, rfl, ⟨zs, hzl, hlim, hox⟩, hoz, hbw⟩ := hrel
    have HOX := Lib.hid hox
    have HOZ := Lib.hid hoz
    have HLIM := Lib.hid hlim
    have HZL := Lib.hid hzl
    have HB := Lib.hid hbw
    clear hox hoz hlim hzl hbw
    by_cases hlt : k < na
    · have e1 : wr.cell? ⟨gx, k, none⟩ = some (.int .u32 ((zs.getD k 0 : Nat) : Int)) := by rw [HOX.out.cellAt k (by omega), nats_at .u32 zs k (by rw [HZL.out]; omega)]
      have e2 := HOX.out.frozenAt k
      have hzx := HLIM.out k (by rw [HZL.out]; omega)
      have hgx : w.heap.size ≤ gx := (own_int HOX.out gx rfl).1
      generalize zs.getD k 0 = x at e1 hzx
      go_wp2_with fail
      go_roundw
      case rel =>
        have hw : ∃ y : Nat, y < 4294967296 ∧ ∀ z : Int, z = ((x : Int) + 1) % 4294967296 → z = (y : Int) := ⟨(x + 1) % 4294967296, by omega, fun z hz => by omega⟩
        obtain ⟨y, hy, hyz⟩ := hw
        refine ⟨k + 1, by omega, by go_num, ⟨zs.set k y, by rw [List.length_set]; exact HZL.out, lim_set HLIM.out k y hy, ?_⟩, ?_, ?_⟩
        · rw [← nats_set, ← hyz _ rfl]
          exact (HOX.out.stored k _).1
        · exact HOZ.out.kept (HOX.out.stored k _).2 (own_apart HOZ.out HOX.out (by decide))
        · exact HB.out.setCell (p := ⟨gx, k, none⟩) hgx _
      case measure => simp [intOf]; omega
    · obtain rfl : na = k := by omega
      clear hk hlt
      go_wp2_with fail
      go_loopw [15] (fun i wr => ∃ k : Nat, k ≤ nl ∧ i = .int .i64 k ∧ wr.ownsRow w.heap.size 35 1 (.slice (some ⟨gx, 0, none⟩) (na + 1) capx) (na + 1) (nats .u32 zs) ∧ wr.ownsRow w.heap.size 9 1 (.slice (some ⟨gz, 0, none⟩) (nl + 1) capz) (nl + 1) (strs (spoil (ls ++ [mark]) k)) ∧ Below w.heap.size w wr) (fun i _ => nl - (intOf i).toNat)
      case atStart => exact ⟨0, by omega, rfl, HOX.out, HOZ.out, HB.out⟩
      case round =>
        clear HOX HOZ HB
        obtain ⟨k, hk, rfl, hox, hoz, hbw⟩ := hrel
        have HOX := Lib.hid hox
        have HOZ := Lib.hid hoz
        have HB := Lib.hid hbw
        clear hox hoz hbw
        have hgz : w.heap.size ≤ gz := (own_int HOZ.out gz rfl).1
        by_cases hlt : k < nl
        · have hsl : k < (spoil (ls ++ [mark]) k).length := by rw [spoil_len _ _ (by simp; rw [← HLn.out]; omega)]; simp; rw [← HLn.out]; omega
          have e1 : wr.cell? ⟨gz, k, none⟩ = some (.string ((spoil (ls ++ [mark]) k).getD k ByteArray.empty)) := by rw [HOZ.out.cellAt k (by omega), strs_at _ k hsl]
          have e2 := HOZ.out.frozenAt k
          have HSS := Lib.hid (spoil_set (ls ++ [mark]) k (by simp; rw [← HLn.out]; omega))
          generalize (spoil (ls ++ [mark]) k).getD k ByteArray.empty = s at e1
          clear hsl
          go_wp2_with fail
          go_roundw
          case rel =>
            refine ⟨k + 1, by omega, by go_num, ?_, ?_, ?_⟩
            · exact HOX.out.kept (HOZ.out.stored k _).2 (own_apart HOX.out HOZ.out (by decide))
            · rw [← HSS.out, ← strs_set]
              exact (HOZ.out.stored k _).1
            · exact HB.out.setCell (p := ⟨gz, k, none⟩) hgz _
          case measure => simp [intOf]; omega
        · obtain rfl : nl = k := by omega
          clear hk hlt
          have HSP : Hid ((strs (spoil (ls ++ [mark]) nl)).take nl = strs (List.replicate nl tS)) := Lib.hid (by rw [strs_take, HLn.out, spoil_front])
          have SZ : Hid (Src wr (some ⟨gz, 0, none⟩) nl capz (strs (List.replicate nl tS))) := Lib.hid (by
            have h := src_front HOZ.out nl (by omega) capz
            rw [HSP.out] at h
            exact h)
          have SX : Hid (Src wr (some ⟨gx, 0, none⟩) na capx (nats .u32 (zs.take na))) := Lib.hid (by
            have h := src_front HOX.out na (by omega) capx
            rw [nats_take] at h
            exact h)
          have LZ : Hid (Lim 4294967296 (zs.take na)) := Lib.hid (lim_take HLIM.out na)
          have HN2 : Hid (na = (zs.take na).length) := Lib.hid (by rw [List.length_take, HZL.out]; omega)
          have hsw := HB.out.size
          clear HOX HOZ HSP HLIM HZL
          generalize zs.take na = us at SX LZ HN2
          go_wp2_with (at_builtin; go_must (refine wpList_append_src rfl (.tmp 145) (.tmp 149) 29 rfl wr.heap.size 9 (.string ByteArray.empty) 16 Try.underlying29 info_str rfl _ 0 [] rfl (own_empty wr 9) (some ⟨gz, 0, none⟩) nl capz _ rfl (SZ.out.below ((Below.refl _ _).alloc (Nat.le_refl _) _)) (strs_one _) (by omega) (by omega) (by simp) ?_); intro vt wt hot hgt)
          rw [Nat.zero_add, List.nil_append] at hot
          have hbt := below_first hgt
          obtain ⟨AT, ct, hvt, hst⟩ := own_src hot
          subst hvt
          have ST := Lib.hid hst
          have T1 := Lib.hid hbt
          clear hot hgt hst hbt
          refine (refOfTexts_any AT ct nl (List.replicate nl tS) _ (by simp) (by rw [vT_rep]; omega) (by omega) ST.out).mono ?_
          rintro e y7 ⟨rfl, hb7⟩
          have T2 := Lib.hid (T1.out.trans (hb7.mono T1.out.size))
          clear hb7 ST
          go_wp2_with fail
          refine (ofTexts_any (some ⟨gz, 0, none⟩) capz nl (List.replicate nl tS) _ (by simp) (by rw [vT_rep]; omega) (by omega) (SZ.out.below T2.out)).mono ?_
          rintro e y8 ⟨rfl, hb8⟩
          have T3 := Lib.hid (T2.out.trans (hb8.mono T2.out.size))
          clear hb8 SZ
          have SX8 := Lib.hid (SX.out.below T3.out)
          have B8 := Lib.hid (HB.out.trans (T3.out.mono hsw))
          clear SX T1 T2 T3 HB
          generalize ofT (List.replicate nl tS) = ot
          go_wp2_with fail
          have FX8 : Hid (∀ w', Below y8.heap.size y8 w' → Src w' (some ⟨gx, 0, none⟩) na capx (nats .u32 us)) := Lib.hid fun w' hb => SX8.out.below hb
          clear SX8
          have i1 : (0 : Int) ≤ (na : Int) := by omega
          have i2 : (na : Int) ≤ (capx : Int) := by omega
          have i3 : (na : Int) ≤ ((na + 1 : Nat) : Int) := by omega
          have i4 : na ≤ capx := by omega
          go_region_held3 (fun w' => Below y8.heap.size y8 w') (first | assumption | exact ba (by assumption) _ | go_grown)
            (first
              | (go_at_call 23; refine (of32_any (some ⟨gx, 0, none⟩) capx na us _ HN2.out (by omega) LZ.out (FX8.out _ (by assumption))).mono ?_; rintro e w9 ⟨rfl, hb9⟩; have hb10 := bt (y := y8) (by assumption) hb9; have hs9 := hb10.size)
              | (refine step_app (by first | rfl | simp [Region.wanted, yielded]) (.tmp 176) (.tmp 180) 22 (by rfl) 0 35 (.int .u32 0) 4 Try.underlying22 info_u32 rfl _ 0 [] (by rfl) (by first | exact own_base (own_empty _ _) (Nat.zero_le _) | exact own_base (own_below (w := (y8.alloc (.cells #[] 35)).drew) (own_empty y8 35) (by assumption) (Nat.le_refl _)) (Nat.zero_le _)) ⟨gx, 0, none⟩ na capx (nats .u32 us) (by rfl) (FX8.out _ (by first | assumption | exact ba (by assumption) _ | go_grown)) (nats_one _ _) (by omega) (by omega) (by omega) ?_; intro vt wt hot hgt; have hb11 := bg (y := y8) (by first | assumption | exact ba (by assumption) _ | go_grown) hgt (by first | omega | exact Nat.le_refl _ | (simp; omega)); clear hgt; rw [Nat.zero_add, List.nil_append] at hot; obtain ⟨AV, cv, hvv, hsv⟩ := own_src hot; subst hvv; have FV : Hid (∀ w', Below wt.heap.size wt w' → Src w' AV na cv (nats .u32 us)) := Lib.hid fun w' hb => hsv.below hb; clear hot hsv)
              | (go_at_call 24; refine (refOf32_any AV cv na us _ HN2.out (by omega) LZ.out (FV.out _ (by first | assumption | exact Below.refl _ _ | go_grown))).mono ?_; rintro e w10 ⟨rfl, hb12⟩; have hb13 := bt (y := y8) (by assumption) hb12))
          all_goals
            go_wp2_with fail
            go_ret
            exact ⟨rfl, B8.out.trans (hb13.mono B8.out.size)⟩
end Go.Proofs.Ytkjhngnpbdlmiaa.Cl
