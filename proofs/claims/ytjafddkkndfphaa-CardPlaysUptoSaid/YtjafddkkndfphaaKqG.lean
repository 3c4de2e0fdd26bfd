/- A step of the script, done by both registries. -/
import Derived.Test.YtjafddkkndfphaaKqF
namespace Go.Proofs.Ytjafddkkndfphaa.Kq
open Go.ChangeShapes Go.WideShapes Go.ChangeAt Go.RowKit Own Ro wordsNames Kc Kr

/-- A step. -/
structure Sp where
  who : Int
  kind : Int
  card : Cd
  pack : List UInt8
  init : Int
  sum : Int
def sp0 : Sp := ⟨0, 0, cd0, [], 0, 0⟩
def spCells (s : Sp) (r : Sl) : List Value := [.int .i64 s.who, .int .i64 s.kind, .string (str s.card.name), .string (str s.card.fam), .int .u8 s.card.level, slV r, .int .i8 s.card.score, .string (str s.card.quirk), .int .i16 s.card.entry, .string (str s.pack), .int .i64 s.init, .int .i64 s.sum]
def spV (s : Sp) (r : Sl) : Value := .agg ⟨spCells s r⟩
theorem spBox (w : World) (s : Sp) (r : Sl) (t : TypeId) (j : Nat) (u : Value) (h : (spCells s r)[j]? = some u) : (w.alloc (.cells ⟨spCells s r⟩ t)).cell? ⟨w.heap.size, j, none⟩ = some u := by
  rw [World.cell?_alloc_at _ _ _ _ rfl]
  simpa using h
theorem qat_p {W W' : World} {g q : Nat} {C F : Cs} {N : List Nt} {z : Bool} {C2 F2 : Cs} {N2 : List Nt} {z2 : Bool} {c f n : Sl} {RC RF : List Sl} (h : Qat W q c f n (Kr.plain C) (Kr.plain F) RC RF N z) (hp : RegAt W g C2 F2 N2 z2) (hg : W.grownBy W' (some g)) : Qat W' q c f n (Kr.plain C) (Kr.plain F) RC RF N z := by
  have hc : Ch (fun k => k = g) W W' := (Ch.refl _ W).grown hg (fun k hk => Or.inl (by injection hk with hk; exact hk.symm))
  refine h.ch hc (fun e => type_ne h.blk hp.blk (by decide) e) (fun y hy e => ?_) (fun y cur fr hy e => type_ne hy hp.blk (by decide) e)
  rcases hy with hy | hy | hy
  · obtain ⟨_, _, t⟩ := own_type h.cl.2.1 hy
    exact type_ne t hp.blk (by decide) e
  · obtain ⟨_, _, t⟩ := own_type h.fl.2.1 hy
    exact type_ne t hp.blk (by decide) e
  · obtain ⟨_, _, t⟩ := own_type h.nl hy
    exact type_ne t hp.blk (by decide) e
theorem ch_gb {W W' : World} {g q : Nat} {c f n : Sl} (hg : W.grownBy W' (some g)) : Ch (Wr g q c f n) W W' := (Ch.refl _ W).grown hg (fun k hk => Or.inl (Or.inl (by injection hk with hk; exact hk.symm)))
set_option maxRecDepth 100000 in
set_option maxHeartbeats 16000000 in
theorem step_mark {g q : Nat} {C F : Cs} {N : List Nt} {z : Bool} {c f n : Sl} {RC RF : List Sl} (s : Sp) (r : Sl) (w : World) (h : Pr w g q C F N z c f n RC RF) (hp : s.pack.length ≤ 1099511627776) (hk : s.kind = 1) :
    Calls Try.prog 31 #[.pointer (some ⟨g, 0, none⟩), .pointer (some ⟨q, 0, none⟩), spV s r] w fun e w' => e = .returned (.bool true) ∧ Stepped g q C F c f n w w' := by
  have HPR := Lib.hid h
  have b1 := Lib.hid (grows' w (.cells ⟨spCells s r⟩ 66))
  have HM := Lib.hid (fun W (hW : Below w.heap.size w W) => mark_any g C F N z s.pack s.init s.sum W (h.p.below hW) hp)
  have HN := Lib.hid (fun W (hQ : Qat W q c f n (Kr.plain C) (Kr.plain F) RC RF N z) => rMark_any s.pack s.init s.sum W hQ hp)
  have k1 := spBox w s r 66 1 _ rfl
  have k9 := spBox w s r 66 9 _ rfl
  have k10 := spBox w s r 66 10 _ rfl
  have k11 := spBox w s r 66 11 _ rfl
  have HBOX : Hid (∀ V, Ch (Wr g q c f n) (w.alloc (.cells ⟨spCells s r⟩ 66)) V → V.cell? ⟨w.heap.size, 9, none⟩ = some (.string (str s.pack)) ∧ V.cell? ⟨w.heap.size, 10, none⟩ = some (.int .i64 s.init) ∧ V.cell? ⟨w.heap.size, 11, none⟩ = some (.int .i64 s.sum)) := Lib.hid (fun V hV => by
    have hne : ¬ Wr g q c f n w.heap.size := fun e => by
      rcases e with e | e
      · have := h.p.blk.lt; omega
      · obtain ⟨_, _, _, ht, _⟩ := h.r.types e
        have := (Array.getElem?_eq_some_iff.1 ht).1
        omega
    have hb := hV.block w.heap.size (by simp) hne
    exact ⟨(World.cell?_of_block hb).trans k9, (World.cell?_of_block hb).trans k10, (World.cell?_of_block hb).trans k11⟩)
  have HP0 := Lib.hid (fun (N1 N2 : List Nt) (n' : Sl) (w1 w2 w3 : World) (hb : Below w.heap.size w w1) (h1 : RegAt w2 g C F N1 z) (hgb : w1.grownBy w2 (some g)) (hq : Qat w3 q c f n' (Kr.plain C) (Kr.plain F) RC RF N2 z) (hc : Ch (Sq q c f n) w2 w3) (hn : Fresh w2 (slV n) (slV n')) (e : N1 = N2) => show Stepped g q C F c f n w w3 from by
    subst e
    have c12 : Ch (Wr g q c f n) w w2 := (Ch.of_below hb).grown hgb (fun k hk => Or.inl (Or.inl (by injection hk with hk; exact hk.symm)))
    have c3 : Ch (Wr g q c f n) w w3 := ⟨hc.os.trans c12.os, hc.tape.trans c12.tape, hc.output.trans c12.output, Nat.le_trans c12.size hc.size, fun k x1 x2 => (hc.block k (Nat.lt_of_lt_of_le x1 c12.size) (fun e => x2 (Or.inr e))).trans (c12.block k x1 x2)⟩
    have hn' : Fresh w (slV n) (slV n') := hn.elim Or.inl (fun e => Or.inr (fun y hy => Nat.le_trans c12.size (e y hy)))
    have hq2 : Qat w2 q c f n (Kr.plain C) (Kr.plain F) RC RF N z := qat_p (h.r.below hb) (h.p.below hb) hgb
    have hr3 : RegAt w3 g C F N1 z := regAt_ch h1 hc (fun e => hq2.not_reg h1.blk (by decide) e) (fun y hy e => h.ap y hy (Or.inr e))
    refine ⟨C, F, N1, z, c, f, n', RC, RF, ⟨hr3, hq, fun y hy => Nat.lt_of_lt_of_le (h.lt y hy) c3.size, fun y hy e => ?_⟩, c3, fun _ hy => Or.inl hy, Or.inl rfl, Or.inl rfl, hn'⟩
    have hap := h.ap y hy
    have hlt := h.lt y hy
    rcases e with e | e | e | e | e
    · exact hap (Or.inl e)
    · exact hap (Or.inr (Or.inl e))
    · exact hap (Or.inr (Or.inr (Or.inl e)))
    · exact hap (Or.inr (Or.inr (Or.inr (Or.inl e))))
    · rcases hn' with x | x
      · exact hap (Or.inr (Or.inr (Or.inr (Or.inr (x ▸ e)))))
      · have := x y e; omega)
  clear h hp
  obtain ⟨who, kind, card, pack, init, sum⟩ := s
  simp only at hk
  subst hk
  unfold spV
  unfold spCells at k1 k9 k10 k11 b1 HBOX ⊢
  simp only at k1 k9 k10 k11 b1 HBOX HM HN ⊢
  go_enter Try.func31, Try.ntmps31
  go_wp2_with fail
  refine (HM.out _ b1.out).mono ?_
  rintro e w2 ⟨N1, e1, rfl, h1, hgb, hmr⟩
  have H1 := Lib.hid h1
  have H2 := Lib.hid hgb
  have H3 := Lib.hid hmr
  obtain ⟨y9, y10, y11⟩ := HBOX.out w2 (ch_gb hgb)
  clear k9 k10 k11 h1 hgb hmr k1
  go_wp2_with fail
  refine (HN.out w2 (qat_p (HPR.out.r.below b1.out) (HPR.out.p.below b1.out) H2.out)).mono ?_
  rintro e w3 ⟨N2, e2, n', rfl, hq, hc, hm2, hfr⟩
  obtain ⟨rfl, hN⟩ := mark_same H3.out hm2 (by simp [Kr.plain])
  have HF := Lib.hid (HP0.out N1 N2 n' _ w2 w3 b1.out H1.out H2.out hq hc hfr hN)
  clear hq hc hm2 hfr hN H1 H2 H3 HP0 HM HN y9 y10 y11
  go_wp2_with fail
  go_ret
  exact ⟨rfl, HF.out⟩
set_option maxRecDepth 100000 in
set_option maxHeartbeats 16000000 in
theorem step_freeze {g q : Nat} {C F : Cs} {N : List Nt} {z : Bool} {c f n : Sl} {RC RF : List Sl} (s : Sp) (r : Sl) (w : World) (h : Pr w g q C F N z c f n RC RF) (hk : s.kind = 2) :
    Calls Try.prog 31 #[.pointer (some ⟨g, 0, none⟩), .pointer (some ⟨q, 0, none⟩), spV s r] w fun e w' => e = .returned (.bool true) ∧ Stepped g q C F c f n w w' := by
  have HPR := Lib.hid h
  have b1 := Lib.hid (grows' w (.cells ⟨spCells s r⟩ 66))
  have HM := Lib.hid (fun W (hW : Below w.heap.size w W) => freeze_any g C F N z W (h.p.below hW))
  have HN := Lib.hid (fun W (hQ : Qat W q c f n (Kr.plain C) (Kr.plain F) RC RF N z) => rFreeze_any W hQ)
  have k1 := spBox w s r 66 1 _ rfl
  have HP0 := Lib.hid (fun (w1 w2 w3 : World) (hb : Below w.heap.size w w1) (h1 : RegAt w2 g C F N true) (hgb : w1.grownBy w2 (some g)) (hq : Qat w3 q c f n (Kr.plain C) (Kr.plain F) RC RF N true) (hc : Ch (Sq q c f n) w2 w3) => show Stepped g q C F c f n w w3 from by
    have c12 : Ch (Wr g q c f n) w w2 := (Ch.of_below hb).grown hgb (fun k hk => Or.inl (Or.inl (by injection hk with hk; exact hk.symm)))
    have c3 : Ch (Wr g q c f n) w w3 := ⟨hc.os.trans c12.os, hc.tape.trans c12.tape, hc.output.trans c12.output, Nat.le_trans c12.size hc.size, fun k x1 x2 => (hc.block k (Nat.lt_of_lt_of_le x1 c12.size) (fun e => x2 (Or.inr e))).trans (c12.block k x1 x2)⟩
    have hq2 : Qat w2 q c f n (Kr.plain C) (Kr.plain F) RC RF N z := qat_p (h.r.below hb) (h.p.below hb) hgb
    have hr3 : RegAt w3 g C F N true := regAt_ch h1 hc (fun e => hq2.not_reg h1.blk (by decide) e) (fun y hy e => h.ap y hy (Or.inr e))
    exact ⟨C, F, N, true, c, f, n, RC, RF, ⟨hr3, hq, fun y hy => Nat.lt_of_lt_of_le (h.lt y hy) c3.size, h.ap⟩, c3, fun _ hy => Or.inl hy, Or.inl rfl, Or.inl rfl, Or.inl rfl⟩)
  clear h
  obtain ⟨who, kind, card, pack, init, sum⟩ := s
  simp only at hk
  subst hk
  unfold spV
  unfold spCells at k1 b1 ⊢
  simp only at k1 b1 ⊢
  go_enter Try.func31, Try.ntmps31
  go_wp2_with fail
  refine (HM.out _ b1.out).mono ?_
  rintro e w2 ⟨rfl, h1, hgb⟩
  have H1 := Lib.hid h1
  have H2 := Lib.hid hgb
  clear h1 hgb k1
  go_wp2_with fail
  refine (HN.out w2 (qat_p (HPR.out.r.below b1.out) (HPR.out.p.below b1.out) H2.out)).mono ?_
  rintro e w3 ⟨rfl, hq, hc⟩
  have HF := Lib.hid (HP0.out _ w2 w3 b1.out H1.out H2.out hq hc)
  clear hq hc H1 H2 HP0 HM HN
  go_wp2_with fail
  go_ret
  exact ⟨rfl, HF.out⟩
theorem stepped_same {g q : Nat} {C F : Cs} {N : List Nt} {z : Bool} {c f n : Sl} {RC RF : List Sl} {w w' : World} (h : Pr w g q C F N z c f n RC RF) (hb : Below w.heap.size w w') : Stepped g q C F c f n w w' :=
  ⟨C, F, N, z, c, f, n, RC, RF, ⟨h.p.below hb, h.r.below hb, fun y hy => Nat.lt_of_lt_of_le (h.lt y hy) hb.size, h.ap⟩, Ch.of_below hb, fun _ hy => Or.inl hy, Or.inl rfl, Or.inl rfl, Or.inl rfl⟩
set_option maxRecDepth 100000 in
set_option maxHeartbeats 16000000 in
theorem step_tell {g q : Nat} {C F : Cs} {N : List Nt} {z : Bool} {c f n : Sl} {RC RF : List Sl} (s : Sp) (r : Sl) (w : World) (h : Pr w g q C F N z c f n RC RF) (hk : s.kind = 3) :
    Calls Try.prog 31 #[.pointer (some ⟨g, 0, none⟩), .pointer (some ⟨q, 0, none⟩), spV s r] w fun e w' => e = .returned (.bool true) ∧ Stepped g q C F c f n w w' := by
  have HPR := Lib.hid h
  have b1 := Lib.hid (grows' w (.cells ⟨spCells s r⟩ 66))
  have HT := Lib.hid (fun W (hW : Below w.heap.size w W) => told_any W (h.p.below hW) (h.r.below hW))
  have k1 := spBox w s r 66 1 _ rfl
  clear h
  obtain ⟨who, kind, card, pack, init, sum⟩ := s
  simp only at hk
  subst hk
  unfold spV
  unfold spCells at k1 b1 ⊢
  simp only at k1 b1 ⊢
  go_enter Try.func31, Try.ntmps31
  go_wp2_with fail
  refine (HT.out _ b1.out).mono ?_
  rintro e w2 ⟨rfl, hb⟩
  have HF := Lib.hid (stepped_same HPR.out (bt b1.out hb))
  clear hb k1 HT
  go_wp2_with fail
  go_ret
  exact ⟨rfl, HF.out⟩
end Go.Proofs.Ytjafddkkndfphaa.Kq
