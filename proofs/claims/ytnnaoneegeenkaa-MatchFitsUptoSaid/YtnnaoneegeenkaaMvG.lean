/- Cards of one's own with other things in them. -/
import Derived.Test.YtnnaoneegeenkaaMvF
namespace Go.Proofs.Ytnnaoneegeenkaa.Mv
open Go.ChangeShapes Go.WideShapes Go.ChangeAt Go.RowKit Own Ro Kc wordsNames Go.Maps Go.WideMaps
open Mt

theorem rows_setL (L : List Cd) (R : List Sl) (i j : Nat) (a' : Cd) (u : Value) (h : L.length = R.length) (hi : i < L.length) (hj : j < 7) (hr : (KC.row (L.getD i cd0, R.getD i sl0)).set j u = KC.row (a', R.getD i sl0)) : (KC.rows L R).set (i * 7 + j) u = KC.rows (L.set i a') R := by
  have e : (L.set i a').zip R = (L.zip R).set i (a', R.getD i sl0) := by
    refine List.ext_getElem? fun k => ?_
    by_cases hki : k = i
    · subst hki
      rw [List.getElem?_set_self (by rw [List.length_zip]; omega)]
      rw [zip_at KC (L.set k a') R (by rw [List.length_set]; exact h) k (by rw [List.length_set]; exact hi), getD_set _ _ _ _ _ hi, if_pos rfl]
    · rw [List.getElem?_set_ne (fun e => hki e.symm)]
      by_cases hk : k < L.length
      · rw [zip_at KC (L.set i a') R (by rw [List.length_set]; exact h) k (by rw [List.length_set]; exact hk), zip_at KC L R h k hk, getD_set _ _ _ _ _ hi, if_neg hki]
      · rw [List.getElem?_eq_none (by rw [List.length_zip, List.length_set]; omega), List.getElem?_eq_none (by rw [List.length_zip]; omega)]
  unfold Kd.rows
  rw [e]
  exact flat_set (KC.row) 7 (fun d => row_len KC d) (L.zip R) i j hj u _ _ (zip_at KC L R h i hi) hr
theorem rows_text (L : List Cd) (R : List Sl) (i : Nat) (x : List Tx) (h : L.length = R.length) (hi : i < L.length) : KC.rows (L.set i { L.getD i cd0 with compat := x }) R = KC.rows L R := by
  rw [← rows_setL L R i 3 { L.getD i cd0 with compat := x } (slV (R.getD i sl0)) h hi (by decide) rfl, rows_setR L R i (R.getD i sl0) h hi]
  congr 1
  refine List.ext_getElem? fun k => ?_
  by_cases hki : k = i
  · subst hki
    rw [List.getElem?_set_self (by omega), some_at R sl0 k (by omega)]
  · rw [List.getElem?_set_ne (fun e => hki e.symm)]
theorem set_front {xs ys : List Value} {j : Nat} (u : Value) (h : j < xs.length) : (xs ++ ys).set j u = xs.set j u ++ ys := by
  rw [List.set_append, if_pos h]
theorem strs_set (l : List Tx) (j : Nat) (x : Tx) : (strs l).set j (.string (str x)) = strs (l.set j x) := by
  unfold Kc.strs
  rw [List.map_set]
theorem Lent.setScore {W : World} {base n c g i : Nat} {L : List Cd} {R : List Sl} (h : Lent W base (some ⟨g, 0, none⟩) n c L R) (hi : i < n) (s : Int) : Lent (W.setCell ⟨g, i * 7 + 4, none⟩ (.int .i8 s)) base (some ⟨g, 0, none⟩) n c (L.set i { L.getD i cd0 with score := s }) R := by
  have hiL : i < L.length := by rw [← h.ln]; exact hi
  have hst := h.hd.stored (i * 7 + 4) (.int .i8 s)
  have hlen : (KC.rows L R).length = n * 7 := by rw [rows_len KC L R h.rn.symm, ← h.ln]; rfl
  rw [set_front _ (by rw [hlen]; omega), rows_setL L R i 4 { L.getD i cd0 with score := s } _ h.rn.symm hiL (by decide) rfl] at hst
  have hcp : ∀ k, ((L.set i { L.getD i cd0 with score := s }).getD k cd0).compat = (L.getD k cd0).compat := fun k => by
    rw [getD_set _ _ _ _ _ hiL]
    by_cases hk : k = i
    · rw [if_pos hk, hk]
    · rw [if_neg hk]
  refine ⟨by rw [List.length_set]; exact h.ln, by rw [List.length_set]; exact h.rn, hst.1, fun k hk => by rw [hcp]; exact h.len k hk, fun k hk => ?_, h.ne⟩
  rw [hcp]
  refine (h.inn k hk).kept hst.2 (.inr fun e => ?_)
  rcases own_apartK (h.inn k hk) h.hd (by decide) with h0 | h0
  · obtain ⟨q, _, hq, _, _⟩ := own_some (h.inn k hk)
    rw [hq] at h0
    cases h0
  · exact h0 e
theorem Lent.setText {W : World} {base n c q i j m d : Nat} {A : Option Addr} {L : List Cd} {R : List Sl} (h : Lent W base A n c L R) (hi : i < n) (hr : R.getD i sl0 = (some ⟨q, 0, none⟩, m, d)) (hj : j < m) (x : Tx) : Lent (W.setCell ⟨q, j, none⟩ (.string (str x))) base A n c (L.set i { L.getD i cd0 with compat := (L.getD i cd0).compat.set j x }) R := by
  have hiL : i < L.length := by rw [← h.ln]; exact hi
  have hin := h.inn i hi
  have hlm := h.len i hi
  rw [hr] at hin hlm
  have hlm' : m = (L.getD i cd0).compat.length := hlm
  have hin' : W.ownsRow base 9 1 (.slice (some ⟨q, 0, none⟩) (m + 1) d) (m + 1) (strs (L.getD i cd0).compat ++ [.string (str markT)]) := hin
  have hst := hin'.stored j (.string (str x))
  rw [set_front _ (by rw [strs_len]; omega), strs_set] at hst
  have hg : ∀ k, (L.set i { L.getD i cd0 with compat := (L.getD i cd0).compat.set j x }).getD k cd0 = if k = i then { L.getD i cd0 with compat := (L.getD i cd0).compat.set j x } else L.getD k cd0 := fun k => getD_set _ _ _ _ _ hiL
  refine ⟨by rw [List.length_set]; exact h.ln, by rw [List.length_set]; exact h.rn, ?_, fun k hk => ?_, fun k hk => ?_, h.ne⟩
  · rw [rows_text L R i _ h.rn.symm hiL]
    refine h.hd.kept hst.2 (.inr fun e => ?_)
    rcases own_apartK (h.inn i hi) h.hd (by decide) with h0 | h0
    · obtain ⟨q', _, hq, _, _⟩ := own_some (h.inn i hi)
      rw [hq] at h0
      cases h0
    · rw [e, hr] at h0
      exact h0 rfl
  · rw [hg]
    by_cases hk2 : k = i
    · rw [if_pos hk2, hk2, h.len i hi]
      exact (List.length_set ..).symm
    · rw [if_neg hk2]
      exact h.len k hk
  · rw [hg]
    by_cases hk2 : k = i
    · rw [if_pos hk2, hk2, hr]
      exact hst.1
    · rw [if_neg hk2]
      refine (h.inn k hk).kept hst.2 (.inr fun e => ?_)
      refine h.ne k i hk hi hk2 ?_
      rw [hr, e]
      rfl
/-- Texts of one's own with the mark behind them. -/
def TL (W : World) (base gs m c : Nat) (ls : List Tx) : Prop := W.ownsRow base 9 1 (.slice (some ⟨gs, 0, none⟩) (m + 1) c) (m + 1) (strs ls ++ [.string (str markT)]) ∧ m = ls.length
theorem TL.below {W V : World} {base gs m c : Nat} {ls : List Tx} (h : TL W base gs m c ls) (hb : Below W.heap.size W V) : TL V base gs m c ls := ⟨own_belowK h.1 hb, h.2⟩
theorem TL.cells {W : World} {base gs m c : Nat} {ls : List Tx} (h : TL W base gs m c ls) : CellsIn W 1 (some ⟨gs, 0, none⟩) m (strs ls) := cells_pre (own_cells h.1) (by rw [strs_len, h.2, Nat.mul_one]) (by decide)
theorem TL.at {W : World} {base gs m c : Nat} {ls : List Tx} (h : TL W base gs m c ls) : base ≤ gs ∧ gs < W.heap.size ∧ m + 1 ≤ c ∧ W.cell? ⟨gs, m, none⟩ = some (.string (str markT)) ∧ (∀ j, W.frozen? ⟨gs, j, none⟩ = false) ∧ ∀ j, j < m → W.cell? ⟨gs, j, none⟩ = some (.string (str (ls.getD j []))) := by
  have hb := h.1.lt gs rfl
  obtain ⟨A', c', e, _, hc⟩ := own_srcK h.1
  injection e with e1 e2 e3
  refine ⟨hb.1, hb.2, by omega, ?_, fun j => h.1.frozenAt j, fun j hj => ?_⟩
  · have hc := h.1.cells (g := gs) rfl m (.string (str markT)) (by rw [List.getElem?_append_right (by rw [strs_len, h.2]; omega), strs_len, h.2, Nat.sub_self]; rfl)
    rw [Ro.add_plain, Nat.zero_add] at hc
    exact hc
  · have hc := h.1.cells (g := gs) rfl j _ (by
      rw [List.getElem?_append_left (by rw [strs_len, ← h.2]; exact hj)]
      exact strs_at _ j (by rw [← h.2]; exact hj))
    rw [Ro.add_plain, Nat.zero_add] at hc
    exact hc
theorem TL.setText {W : World} {base gs m c j : Nat} {ls : List Tx} (h : TL W base gs m c ls) (hj : j < m) (x : Tx) : TL (W.setCell ⟨gs, j, none⟩ (.string (str x))) base gs m c (ls.set j x) := by
  have hst := h.1.stored j (.string (str x))
  rw [set_front _ (by rw [strs_len, ← h.2]; exact hj), strs_set] at hst
  exact ⟨hst.1, by rw [List.length_set]; exact h.2⟩
/-- A write into those texts leaves the cards alone. -/
theorem Lent.keptT {W : World} {base b1 gs m c n d j : Nat} {A : Option Addr} {L : List Cd} {R : List Sl} {ls : List Tx} (h : Lent W base A n c L R) (ht : TL W b1 gs m d ls) (u : Value)
    (hlA : ∀ g, A = some ⟨g, 0, none⟩ → g < b1) (hlo : ∀ k, k < n → ∀ q, (innV (R.getD k sl0)).ownBlock = some q → q < b1) : Lent (W.setCell ⟨gs, j, none⟩ u) base A n c L R := by
  have hst := ht.1.stored j u
  have hb := (ht.1.lt gs rfl).1
  refine ⟨h.ln, h.rn, h.hd.kept hst.2 (.inr fun e => ?_), h.len, fun k hk => (h.inn k hk).kept hst.2 (.inr fun e => ?_), h.ne⟩
  · obtain ⟨g, rfl, _, _⟩ := own_shapeK h.hd (by omega)
    have e2 : some g = some gs := e
    injection e2 with e2
    have := hlA g rfl
    omega
  · have := hlo k hk gs e
    omega
/-- A write below those texts leaves them alone. -/
theorem TL.keptLow {W : World} {b1 gs m c : Nat} {ls : List Tx} {p : Addr} {u : Value} (h : TL W b1 gs m c ls) (hp : p.block < b1) : TL (W.setCell p u) b1 gs m c ls := ⟨own_set h.1 hp, h.2⟩
/-- A write above the cards' blocks leaves them alone. -/
theorem Lent.setHi {W : World} {base b1 n c : Nat} {A : Option Addr} {L : List Cd} {R : List Sl} (h : Lent W base A n c L R) (p : Addr) (u : Value) (hp : b1 ≤ p.block)
    (hlA : ∀ g, A = some ⟨g, 0, none⟩ → g < b1) (hlo : ∀ k, k < n → ∀ q, (innV (R.getD k sl0)).ownBlock = some q → q < b1) : Lent (W.setCell p u) base A n c L R := by
  refine ⟨h.ln, h.rn, h.hd.kept (set_grown W p u) (.inr fun e => ?_), h.len, fun k hk => (h.inn k hk).kept (set_grown W p u) (.inr fun e => ?_), h.ne⟩
  · obtain ⟨g, rfl, _, _⟩ := own_shapeK h.hd (by omega)
    have e2 : some g = some p.block := e
    injection e2 with e2
    have := hlA g rfl
    omega
  · have := hlo k hk p.block e
    omega
theorem TL.setNe {W : World} {b1 gs m c : Nat} {ls : List Tx} {p : Addr} {u : Value} (h : TL W b1 gs m c ls) (hp : gs ≠ p.block) : TL (W.setCell p u) b1 gs m c ls := ⟨h.1.kept (set_grown W p u) (.inr fun e => by
  have e2 : some gs = some p.block := e
  injection e2 with e2
  exact hp e2), h.2⟩
theorem there2_one {W : World} {g b o : Nat} (h : there2 W g) (u : Value) : there2 (W.setCell ⟨b, o, none⟩ u) g := World.there_setCells h b o [u]
theorem TL.src {W : World} {base gs m c : Nat} {ls : List Tx} (h : TL W base gs m c ls) : ∀ j u, (strs ls)[j]? = some u → W.cell? ((⟨gs, 0, none⟩ : Addr).add j) = some u := fun j u hu => h.1.cells (g := gs) rfl j u (by rw [List.getElem?_append_left (List.getElem?_eq_some_iff.1 hu).1]; exact hu)
theorem cells2_other {W : World} {g g' : Nat} {x y : Value} (h : cells2 W g x y) (hne : g' ≠ g) (u v : Value) : cells2 ((W.setCell ⟨g', 0, none⟩ u).setCell ⟨g', 1, none⟩ v) g x y := by
  have e : ∀ i j : Nat, (⟨g', i, none⟩ : Addr) ≠ ⟨g, j, none⟩ := fun i j e => by injection e with e; exact hne e
  exact ⟨by rw [World.cell?_setCell_other _ _ _ _ (e 1 0), World.cell?_setCell_other _ _ _ _ (e 0 0)]; exact h.1, by rw [World.cell?_setCell_other _ _ _ _ (e 1 1), World.cell?_setCell_other _ _ _ _ (e 0 1)]; exact h.2⟩
/-- An append to a list of the call's own, as a step of a region that draws. -/
theorem step_ownK {P : Program} {w : World} {ops : Array Oper} {o : Oper} {a : Act} {K : Act → World → Prop} {Q : Exit → Act → World → Prop} {E' : Prop} (hw : Region.wanted o (yielded ops a.tmps) = true) (s x : Operand) (t : TypeId)
    (ho : o.op = .call { callee := .builtin .append, args := #[s, x], argTypes := #[t, t] })
    (base : Nat) (e : TypeId) (z : Value) (k bytes : Nat) (hk : 0 < k) (ht : P.underlying t = some (.slice e)) (hinfo : (P.info? e).map (fun i => (i.zero, i.size, i.bytes)) = some (some z, k, bytes)) (hzs : z.cells.size = k)
    (ao : Option Addr) (n cap : Nat) (xs : List Value) (hs : a.eval s = .slice ao n cap) (hown : w.ownsRow base e k (.slice ao n cap) n xs)
    (ad : Addr) (m c : Nat) (news : List Value) (hx : a.eval x = .slice (some ad) m c) (hl : news.length = m * k) (hc : ∀ j u, news[j]? = some u → w.cell? (ad.add j) = some u) (h1 : ∀ u ∈ news, u.oneCell' = true)
    (h63 : n + m ≤ maxLen) (hbytes : (n + m) * bytes ≤ 140737488355328) (hbase : base ≤ w.heap.size)
    (h : ∀ v' w', w'.ownsRow base e k v' (n + m) (xs ++ news) → w.grownBy w' (Value.slice ao n cap).ownBlock → K (a.put o.dst v') w') : if Region.wanted o (yielded ops a.tmps) = true then Oper.wp P o a w K Q else E' := by
  rw [if_pos hw]
  have hi0 : ∃ i, P.info? e = some i ∧ i.zero = some z ∧ i.size = k ∧ i.bytes = bytes := by
    cases hI : P.info? e with
    | none => rw [hI] at hinfo; simp at hinfo
    | some i =>
      rw [hI] at hinfo
      simp at hinfo
      exact ⟨i, rfl, hinfo.1, hinfo.2.1, hinfo.2.2⟩
  obtain ⟨i, hi, hz, hz1, hz2⟩ := hi0
  obtain ⟨v', w', hrun, r1, r2, _⟩ := run_append_own (P := P) w base t o.type e i z k bytes ht hi hz hz1 hz2 hzs hk (.slice ao n cap) n xs hown ad m c news hl hc h1 h63 hbytes hbase
  unfold Oper.wp
  simp [execOp, ho, resolve, invoke, builtin, hs, hx, hrun, Result.andThen]
  exact h v' w' r1 r2
theorem mild_score {N i : Nat} {L : List Cd} (h : MildL N L) (hi : i < L.length) (s : Int) : MildL N (L.set i { L.getD i cd0 with score := s }) := by
  refine ⟨by rw [List.length_set]; exact h.1, fun k => ?_⟩
  rw [getD_set _ _ _ _ _ hi]
  by_cases hk : k = i
  · rw [if_pos hk]
    exact h.2 i
  · rw [if_neg hk]
    exact h.2 k
theorem mild_text {N i j : Nat} {L : List Cd} (h : MildL N L) (hi : i < L.length) (hj : j < (L.getD i cd0).compat.length) (x : Tx) (hx : x.length ≤ N) : MildL N (L.set i { L.getD i cd0 with compat := (L.getD i cd0).compat.set j x }) := by
  refine ⟨by rw [List.length_set]; exact h.1, fun k => ?_⟩
  rw [getD_set _ _ _ _ _ hi]
  by_cases hk : k = i
  · rw [if_pos hk]
    obtain ⟨h1, h2, h3, h4, h5⟩ := h.2 i
    refine ⟨h1, h2, h3, by rw [List.length_set]; exact h4, fun q => ?_⟩
    rw [getD_set _ _ _ _ _ hj]
    by_cases hq : q = j
    · rw [if_pos hq]; exact hx
    · rw [if_neg hq]; exact h5 q
  · rw [if_neg hk]
    exact h.2 k
end Go.Proofs.Ytnnaoneegeenkaa.Mv
