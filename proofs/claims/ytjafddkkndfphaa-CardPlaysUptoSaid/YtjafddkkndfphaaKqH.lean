/- A step of the script that enters a card. -/
import Derived.Test.YtjafddkkndfphaaKqG
import Derived.Deep.WholeRow
namespace Go.Proofs.Ytjafddkkndfphaa.Kq
open Go.ChangeShapes Go.WideShapes Go.ChangeAt Go.RowKit Own Ro wordsNames Kc Kr

/-- A whole struct goes into the block that was made last. -/
theorem wpList_store_new {P : Program} {ops : Array Oper} {rest : List Oper} {op : Oper} {a : Act} {w : World} {Q : Exit → Act → World → Prop} (hgd : op.guard = none) (ty : TypeId) (x y : Operand) (ho : op.op = .store ty x y)
    (c c' : Array Value) (hx : a.eval x = .pointer (some ⟨w.heap.size, 0, none⟩)) (hy : a.eval y = .agg c') (hi : (P.info? ty).map (·.size) = some c'.size) (hs : c.size = c'.size) (h1 : c'.all (·.oneCell') = true)
    (h : wpList P ops Q rest (a.put op.dst undef) (w.alloc (.cells c' ty))) : wpList P ops Q (op :: rest) a (w.alloc (.cells c ty)) := by
  refine wpList_plain hgd fun _ hK => ?_
  unfold Oper.wp execOp
  simp only [ho, hx, hy, Instr.storeAt, Instr.sureAddr, Sem.run_bind, Sem.run_pure, Result.andThen_ok, run_storeVar_new w ty c c' hi hs h1]
  exact hK _ _ h
theorem ch_low {S : Nat → Prop} {W W' : World} {B : Nat} (h : Ch S W W') (hB : B ≤ W.heap.size) (hs : ∀ y, S y → B ≤ y) : Below B W W' := ⟨h.os, h.tape, h.output, h.size, fun k hk => h.block k (by omega) (fun e => by have := hs k e; omega)⟩
theorem tx_new {w w' : World} {g : Nat} {C F C' F' : Cs} {N : List Nt} {z : Bool} {d : Cd} {er : Int} (h : EnterRel C F z d w.heap.size C' F' er) (hr : RegAt w' g C' F' N z) : ∀ y, Tx C' F' y → Tx C F y ∨ (w.heap.size ≤ y ∧ y < w'.heap.size) := by
  have key : ∀ (X : Cs) (r : Sl) (hok : CardOk d) (hx : ∀ a, r.1 = some a → w.heap.size ≤ a.block) (ht : TxIn w' g (d, r)) (i : Nat) (a : Addr), i < (X ++ [(d, r)]).length → ((X ++ [(d, r)]).getD i zc).2.1 = some a → (i < X.length ∧ (X.getD i zc).2.1 = some a) ∨ (w.heap.size ≤ a.block ∧ a.block < w'.heap.size) := by
    intro X r hok hx ht i a hi ha
    by_cases h1 : i < X.length
    · rw [getD_sn X _ zc i h1] at ha
      exact Or.inl ⟨h1, ha⟩
    · have h2 : i = X.length := by simp at hi; omega
      subst h2
      rw [getD_la X _ zc] at ha
      refine Or.inr ⟨hx a ha, ?_⟩
      obtain ⟨t1, t2, _⟩ := ht
      have hpos : 0 < r.2.1 := by
        have := hok.2.2.2.1.1
        have t1' : r.2.1 = d.compat.length := t1
        omega
      obtain ⟨b, o, hA, hb, _⟩ := t2.at hpos
      have : some a = some (⟨b, o, none⟩ : Addr) := ha.symm.trans hA
      injection this with this
      rw [this]
      exact hb
  rintro y (⟨i, a, hi, ha, rfl⟩ | ⟨i, a, hi, ha, rfl⟩)
  · rcases h with ⟨_, _, rfl, rfl⟩ | ⟨_, _, _, rfl, rfl⟩ | ⟨_, _, _, _, _, rfl, rfl⟩ | ⟨_, _, _, _, _, rfl, r, rfl, hx⟩ | ⟨_, _, _, _, _, rfl, rfl⟩ | ⟨_, hok, _, _, _, rfl, r, rfl, hx⟩
    · exact Or.inl (Or.inl ⟨i, a, hi, ha, rfl⟩)
    · exact Or.inl (Or.inl ⟨i, a, hi, ha, rfl⟩)
    · exact Or.inl (Or.inl ⟨i, a, hi, ha, rfl⟩)
    · exact Or.inl (Or.inl ⟨i, a, hi, ha, rfl⟩)
    · exact Or.inl (Or.inl ⟨i, a, hi, ha, rfl⟩)
    · have ht := hr.ct C.length (by simp)
      rw [getD_la C _ zc] at ht
      rcases key C r hok hx ht i a hi ha with h1 | h1
      · exact Or.inl (Or.inl ⟨i, a, h1.1, h1.2, rfl⟩)
      · exact Or.inr h1
  · rcases h with ⟨_, _, rfl, rfl⟩ | ⟨_, _, _, rfl, rfl⟩ | ⟨_, _, _, _, _, rfl, rfl⟩ | ⟨_, hok, _, _, _, rfl, r, rfl, hx⟩ | ⟨_, _, _, _, _, rfl, rfl⟩ | ⟨_, _, _, _, _, rfl, r, rfl, hx⟩
    · exact Or.inl (Or.inr ⟨i, a, hi, ha, rfl⟩)
    · exact Or.inl (Or.inr ⟨i, a, hi, ha, rfl⟩)
    · exact Or.inl (Or.inr ⟨i, a, hi, ha, rfl⟩)
    · have ht := hr.ft F.length (by simp)
      rw [getD_la F _ zc] at ht
      rcases key F r hok hx ht i a hi ha with h1 | h1
      · exact Or.inl (Or.inr ⟨i, a, h1.1, h1.2, rfl⟩)
      · exact Or.inr h1
    · exact Or.inl (Or.inr ⟨i, a, hi, ha, rfl⟩)
    · exact Or.inl (Or.inr ⟨i, a, hi, ha, rfl⟩)
theorem fresh_from {w W : World} {v v' : Value} (h : Fresh W v v') (hw : w.heap.size ≤ W.heap.size) : Fresh w v v' := h.elim Or.inl (fun e => Or.inr (fun y hy => Nat.le_trans hw (e y hy)))
/-- What stands when both have entered the card. -/
theorem entered {w wE w2 W W' : World} {g q : Nat} {C F C1 F1 : Cs} {N : List Nt} {z : Bool} {c f n c' f' : Sl} {RC RF RC' RF' : List Sl} {d : Cd} {e1 e2 : Int} {L1 G1 : List Cd}
    (h : Pr w g q C F N z c f n RC RF) (hb : Below w.heap.size w wE) (h1 : RegAt w2 g C1 F1 N z) (hgb : wE.grownBy w2 (some g)) (hr : EnterRel C F z d wE.heap.size C1 F1 e1)
    (hW : RegAt W g C1 F1 N z) (hWc : Ch (fun k => k = g) w W) (hs : w2.heap.size ≤ W.heap.size)
    (hq : Qat W' q c' f' n L1 G1 RC' RF' N z) (hc : Ch (Sq q c f n) W W') (he : ERel (Kr.plain C) (Kr.plain F) z d L1 G1 e2) (hfc : Fresh W (slV c) (slV c')) (hff : Fresh W (slV f) (slV f')) : e1 = e2 ∧ Stepped g q C F c f n w W' := by
  obtain ⟨hee, rfl, rfl⟩ := enter_same2 hr he
  have hqW : Qat W q c f n (Kr.plain C) (Kr.plain F) RC RF N z := by
    refine h.r.ch hWc (fun e => type_ne h.r.blk h.p.blk (by decide) e) (fun y hy e => ?_) (fun y cur fr hy e => type_ne hy h.p.blk (by decide) e)
    rcases hy with hy | hy | hy
    · obtain ⟨_, _, t⟩ := own_type h.r.cl.2.1 hy
      exact type_ne t h.p.blk (by decide) e
    · obtain ⟨_, _, t⟩ := own_type h.r.fl.2.1 hy
      exact type_ne t h.p.blk (by decide) e
    · obtain ⟨_, _, t⟩ := own_type h.r.nl hy
      exact type_ne t h.p.blk (by decide) e
  have hwr : ∀ y, Wr g q c f n y → y < w.heap.size := fun y hy => by
    rcases hy with rfl | hy
    · exact h.p.blk.lt
    · obtain ⟨_, _, _, t, _⟩ := h.r.types hy
      exact (Array.getElem?_eq_some_iff.1 t).1
  have hwE : w.heap.size ≤ wE.heap.size := hb.size
  have htx := tx_new hr h1
  have c3 : Ch (Wr g q c f n) w W' := by
    have c12 : Ch (Wr g q c f n) w W := hWc.mono (fun k hk => Or.inl hk)
    exact ⟨hc.os.trans c12.os, hc.tape.trans c12.tape, hc.output.trans c12.output, Nat.le_trans c12.size hc.size, fun k x1 x2 => (hc.block k (Nat.lt_of_lt_of_le x1 c12.size) (fun e => x2 (Or.inr e))).trans (c12.block k x1 x2)⟩
  have hr3 : RegAt W' g C1 F1 N z := regAt_ch hW hc (fun e => hqW.not_reg hW.blk (by decide) e) (fun y hy e => by
    rcases htx y hy with h2 | h2
    · exact h.ap y h2 (Or.inr e)
    · have := hwr y (Or.inr e); omega)
  have hsz : w.heap.size ≤ W.heap.size := hWc.size
  refine ⟨hee, C1, F1, N, z, c', f', n, RC', RF', ⟨hr3, hq, fun y hy => ?_, fun y hy e => ?_⟩, c3, fun y hy => ?_, fresh_from hfc hsz, fresh_from hff hsz, Or.inl rfl⟩
  · have hs3 := hc.size
    rcases htx y hy with h2 | h2
    · have := h.lt y h2
      have := c3.size
      omega
    · omega
  · have old : ¬ Wr g q c f n y := fun e2 => by
      rcases htx y hy with h2 | h2
      · exact h.ap y h2 e2
      · have := hwr y e2; omega
    have lt : y < W.heap.size := by
      rcases htx y hy with h2 | h2
      · have := h.lt y h2; omega
      · omega
    rcases e with e | e | e | e | e
    · exact old (Or.inl e)
    · exact old (Or.inr (Or.inl e))
    · rcases hfc with x | x
      · exact old (Or.inr (Or.inr (Or.inl (x ▸ e))))
      · have := x y e; omega
    · rcases hff with x | x
      · exact old (Or.inr (Or.inr (Or.inr (Or.inl (x ▸ e)))))
      · have := x y e; omega
    · exact old (Or.inr (Or.inr (Or.inr (Or.inr e))))
  · rcases htx y hy with h2 | h2
    · exact Or.inl h2
    · exact Or.inr (by omega)
end Go.Proofs.Ytjafddkkndfphaa.Kq
