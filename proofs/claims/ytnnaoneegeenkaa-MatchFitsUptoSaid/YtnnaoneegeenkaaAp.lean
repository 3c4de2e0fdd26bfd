/- append to a list of the call's own, and where the new one lies. -/
import Derived.Test.YtnnaoneegeenkaaRo
namespace Go.Proofs.Ytnnaoneegeenkaa.Ro
open Go.ChangeShapes Go.WideShapes Go.ChangeAt Go.RowKit

theorem wpList_append_apartK {P : Program} {w : World} {ops : Array Oper} {rest : List Oper} {o : Oper} {a : Act} {Q : Exit → Act → World → Prop} (hgd : o.guard = none) (s x : Operand) (t : TypeId)
    (ho : o.op = .call { callee := .builtin .append, args := #[s, x], argTypes := #[t, t] })
    (base : Nat) (e : TypeId) (z : Value) (k bytes : Nat) (hk : 0 < k) (ht : P.underlying t = some (.slice e)) (hinfo : (P.info? e).map (fun i => (i.zero, i.size, i.bytes)) = some (some z, k, bytes)) (hzs : z.cells.size = k)
    (v : Value) (n : Nat) (xs : List Value) (hs : a.eval s = v) (hown : w.ownsRow base e k v n xs)
    (ad : Addr) (m c : Nat) (news : List Value) (hx : a.eval x = .slice (some ad) m c) (hm : 0 < m) (hl : news.length = m * k) (hc : ∀ j u, news[j]? = some u → w.cell? (ad.add j) = some u) (h1 : ∀ u ∈ news, u.oneCell' = true)
    (h63 : n + m ≤ 140737488355328) (hbytes : (n + m) * bytes ≤ 140737488355328) (hbase : base ≤ w.heap.size)
    (h : ∀ v' w', w'.ownsRow base e k v' (n + m) (xs ++ news) → w.grownBy w' v.ownBlock → (v'.ownBlock = v.ownBlock ∨ ∀ g, v'.ownBlock = some g → w.heap.size ≤ g) → wpList P ops Q rest (a.put o.dst v') w') : wpList P ops Q (o :: rest) a w := by
  have hi0 : ∃ i, P.info? e = some i ∧ i.zero = some z ∧ i.size = k ∧ i.bytes = bytes := by
    cases hI : P.info? e with
    | none => rw [hI] at hinfo; simp at hinfo
    | some i =>
      rw [hI] at hinfo
      simp at hinfo
      exact ⟨i, rfl, hinfo.1, hinfo.2.1, hinfo.2.2⟩
  obtain ⟨i, hi, hz, hz1, hz2⟩ := hi0
  have hlen := hown.1
  have hmax : n + m ≤ maxLen := by unfold maxLen; omega
  have grow : ∀ (ao : Option Addr) (cap : Nat), v = .slice ao n cap → (ao = none → n = 0 ∧ cap = 0) → (∀ b, ao = some b → ∀ j u, xs[j]? = some u → w.cell? (b.add j) = some u) → cap < n + m → wpList P ops Q (o :: rest) a w := fun ao cap hv hnone holds hfull =>
    wpList_append_grows w hgd s x t ho e i z k bytes ht hi hz hz1 hz2 hzs hk ao n cap xs (hs.trans hv) hnone hlen holds ad m c news hx hl hc h1 hfull hmax hbytes fun v' w' h2 h3 =>
      h v' w' ⟨h2.1, by
        rcases h2.2 with h0 | ⟨g, cap, cur, hv, hg, r⟩
        · exact .inl h0
        · exact .inr ⟨g, cap, cur, hv, Nat.le_trans hbase hg, r⟩⟩ ⟨h3.os, h3.tape, h3.output, h3.size, fun k hk _ => h3.block k hk (by simp)⟩ (.inr fun g hg => (h2.lt g hg).1)
  rcases hown.2 with ⟨hv, hn⟩ | ⟨g, cap, cur, hv, hbg, hg, hnc, hcm, hcs, htake⟩
  · subst hn
    exact grow none 0 hv (fun _ => ⟨rfl, rfl⟩) (fun b hb => by cases hb) (by omega)
  · by_cases hroom : n + m ≤ cap
    · refine wpList_plain hgd fun K hK => ?_
      subst hv
      obtain ⟨v', w', hr, h2, h3, _⟩ := run_append_own (P := P) w base t o.type e i z k bytes ht hi hz hz1 hz2 hzs hk _ n xs hown ad m c news hl hc h1 hmax hbytes hbase
      have hr2 := run_append_room (P := P) w t o.type e i ht hi g n cap cur hg ad m c news (by rw [hz1]; exact hl) hc h1 hroom (by rw [hz1, hl, hcs, ← Nat.add_mul]; exact Nat.mul_le_mul_right k hroom)
      have hv' : v'.ownBlock = some g := by
        rw [hr2] at hr
        injection hr with hr _
        rw [← hr]
        rfl
      unfold Oper.wp execOp
      simp only [ho, resolve, invoke, builtin, Sem.run_bind, Sem.run_pure, Result.andThen_ok, List.map_toArray, List.map_cons, List.map_nil, hs, hx, hr]
      exact hK _ _ (h v' w' h2 h3 (.inl hv'))
    · exact grow (some ⟨g, 0, none⟩) cap hv (fun e => by cases e) (fun b hb j u hu => by
        injection hb with hb
        subst hb
        subst hv
        exact hown.cells (g := g) rfl j u hu) (by omega)
end Go.Proofs.Ytnnaoneegeenkaa.Ro
