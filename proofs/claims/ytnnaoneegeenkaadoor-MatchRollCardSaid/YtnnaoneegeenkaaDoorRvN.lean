/- The number that a card points to: the program's Entry. -/
import Derived.Test.YtnnaoneegeenkaaDoorRvL
namespace Go.Proofs.YtnnaoneegeenkaaDoor.Kq
open Go.ChangeShapes Go.WideShapes Go.ChangeAt Go.RowKit Own Ro wordsNames Kc Go.Maps Go.WideMaps
open Ka (i64s i64s_len i64s_at)
open Rm (Fams crystalN supplyN busN sensorN radioN found_c found_v found_b found_s found_r TabPost T5 arrays_any DA rd zeroFn fnV)

theorem fam_found (nm : List UInt8) (h : nm ∈ Fams) : ∃ f n T, Rm.Found nm f n (i64s (lookT (tabsI 5) nm)) T ∧ n = (lookT (tabsI 5) nm).length := by
  rw [tabs5]
  simp only [Fams, List.mem_cons, List.not_mem_nil, or_false] at h
  rcases h with rfl | rfl | rfl | rfl | rfl
  · exact ⟨_, _, _, found_c, rfl⟩
  · exact ⟨_, _, _, found_v, rfl⟩
  · exact ⟨_, _, _, found_b, rfl⟩
  · exact ⟨_, _, _, found_s, rfl⟩
  · exact ⟨_, _, _, found_r, rfl⟩
theorem step_look {H : Type} {P : Program} {w : World} {ops : Array Oper} {o : Oper} {a : Act} {K : Act → World → Prop} {Q : Exit → Act → World → Prop} {E' : Prop} (hw : Region.wanted o (yielded ops a.tmps) = true) (m x : Operand) (t : TypeId) (hop : o.op = Op.lookup t m x false)
    (k e : TypeId) (KK : Keyed P k) (ht : P.underlying t = some (.map k e)) (R : Value → Option (DataW H × List MemPlace)) {z : Value} (hz : (zeroValue e).run P w = .ok z w) (zd : DataW H) (zp : List MemPlace) (hzd : R z = some (zd, zp)) (b n : Nat) (D : DataW H)
    (hm : a.eval m = .map (some b)) (hown : w.ownsMap P k R b n D) (key : Value) (kl : Lit) (hx : a.eval x = key) (hkey : keyOf P k key = some kl)
    (h : ∀ v ps, R v = some (D.atKey kl zd, ps) → K (a.put o.dst v) w) : if Region.wanted o (yielded ops a.tmps) = true then Oper.wp P o a w K Q else E' := by
  rw [if_pos hw]
  obtain ⟨v, ps, hrun, hv⟩ := hown.lookup KK ht hz hzd hkey
  unfold Oper.wp
  simp [execOp, hop, hm, hx, hrun, Result.andThen]
  exact h v ps hv
end Go.Proofs.YtnnaoneegeenkaaDoor.Kq
